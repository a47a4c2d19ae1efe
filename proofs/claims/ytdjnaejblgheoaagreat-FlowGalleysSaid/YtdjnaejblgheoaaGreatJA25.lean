import Derived.Test.YtdjnaejblgheoaaGreatJA19
import Derived.Test.YtdjnaejblgheoaaGreatJA01
import Derived.Maps.AppendAt
import Derived.BigRegion
import Derived.Deep.RegionHeld3
import Derived.Test.YtdjnaejblgheoaaGreatJA23
import Derived.Test.YtdjnaejblgheoaaGreatJA09
import Derived.Lib.MinMax
import Derived.Test.YtdjnaejblgheoaaGreatJA24
import Derived.Test.YtdjnaejblgheoaaGreatJA17
import Derived.Lib.SliceRun
/- The program's walker of package flow: across, put. (Written by program: tools/drafts/genput14.py.) -/
namespace Go.Proofs.YtdjnaejblgheoaaGreat
open Go.RowKit
set_option linter.unusedVariables false
set_option linter.unusedSimpArgs false
theorem box8 (w : World) (x : Am) (t : TypeId) : Box (w.alloc (.cells #[.int .i64 x.kind, .int .i64 x.node, .int .i64 x.from_, .int .i64 x.to_, .int .i64 x.x, .int .i64 x.y, .int .i64 x.w, .int .i64 x.h] t)) w.heap.size (encAm x) := Box.new w (encAm x) t
theorem am_of {w : World} {k : Nat} {x : Am} (h : Box w k (encAm x)) : w.cell? ⟨k, 0, none⟩ = some (.int .i64 x.kind) ∧ w.cell? ⟨k, 1, none⟩ = some (.int .i64 x.node) ∧ w.cell? ⟨k, 2, none⟩ = some (.int .i64 x.from_) ∧ w.cell? ⟨k, 3, none⟩ = some (.int .i64 x.to_) ∧ w.cell? ⟨k, 4, none⟩ = some (.int .i64 x.x) ∧ w.cell? ⟨k, 5, none⟩ = some (.int .i64 x.y) ∧ w.cell? ⟨k, 6, none⟩ = some (.int .i64 x.w) ∧ w.cell? ⟨k, 7, none⟩ = some (.int .i64 x.h) :=
  ⟨h.2.2 0 _ rfl, h.2.2 1 _ rfl, h.2.2 2 _ rfl, h.2.2 3 _ rfl, h.2.2 4 _ rfl, h.2.2 5 _ rfl, h.2.2 6 _ rfl, h.2.2 7 _ rfl⟩
theorem cells_box8 {w : World} {b : Nat} {x : Am} (h : Box w b (encAm x)) : Cells w (some ⟨b, 0, none⟩) 1 8 (encAm x) :=
  ⟨rfl, by decide, fun _ => ⟨b, 0, rfl, h.1, fun j y hy => by rw [Nat.zero_add]; exact h.2.2 j y hy⟩⟩
theorem am_info14 : (Tryz.prog.info? 44).map (fun i => (i.zero, i.size, i.bytes)) = some (some (.agg #[.int .i64 0, .int .i64 0, .int .i64 0, .int .i64 0, .int .i64 0, .int .i64 0, .int .i64 0, .int .i64 0]), 8, 64) := by kernel_rfl
theorem step_append_cells_at {P : Program} {w : World} {ops : Array Oper} {o : Oper} {a : Act} {K : Act → World → Prop} {Q : Exit → Act → World → Prop} {E : Prop} (hgd : o.guard = none) (s x : Operand) (t : TypeId)
    (ho : o.op = .call { callee := .builtin .append, args := #[s, x], argTypes := #[t, t] })
    (base : Nat) (e : TypeId) (i : TypeInfo) (z : Value) (size bytes : Nat) (ht : P.underlying t = some (.slice e)) (hi : P.info? e = some i) (hz : i.zero = some z)
    (hsize : i.size = size) (hby : i.bytes = bytes) (hzs : z.cells.size = size) (hsz : 0 < size)
    (v : Value) (n : Nat) (xs : List Value) (hs : a.eval s = v) (hown : w.ownsRow base e size v n xs)
    (A : Option Addr) (m c : Nat) (news : List Value) (hm : 0 < m) (hx : a.eval x = .slice A m c) (hc : Cells w A m size news) (h1 : ∀ u ∈ news, u.oneCell' = true)
    (h63 : n + m ≤ maxLen) (hbytes : (n + m) * bytes ≤ 140737488355328) (hbase : base ≤ w.heap.size)
    (h : ∀ A' c' w', w'.ownsRow base e size (.slice A' (n + m) c') (n + m) (xs ++ news) → w.grownBy w' v.ownBlock → ((Value.slice A' (n + m) c').ownBlock = v.ownBlock ∨ (Value.slice A' (n + m) c').ownBlock = some w.heap.size) → K (a.put o.dst (.slice A' (n + m) c')) w') :
    if Region.wanted o (yielded ops a.tmps) = true then Oper.wp P o a w K Q else E := by
  obtain ⟨A', c', w', hr, h2, h3, h4⟩ := run_append_cells_at (P := P) w base t o.type e i z size bytes ht hi hz hsize hby hzs hsz v n xs hown A m c news hm hc h1 h63 hbytes hbase
  have hw : Region.wanted o (yielded ops a.tmps) = true := by simp [Region.wanted, hgd]
  rw [if_pos hw]
  unfold Oper.wp execOp
  simp only [ho, resolve, invoke, builtin, Sem.run_bind, Sem.run_pure, Result.andThen_ok, List.map_toArray, List.map_cons, List.map_nil, hs, hx, hr]
  exact h _ _ _ h2 h3 h4
section
variable {w1 : World} {An Ar : Option Addr} {nn cn nr cr : Nat} {w : World} {s : Gs} {A A2 : Option Addr} {n c m c2 : Nat}
theorem across14_to {zs : List (Int × Int)} (hR : Rows 2 encRm w1 Ar nr zs) {i : Nat} (hi : i < nr) {x u : Int} (hx : zs[i]? = some (x, u)) (hw : IntKind.i64.wrap (x + u) = x + u) (h : Wk w1 An nn cn Ar nr cr w s A n c A2 m c2) :
    Calls Tryz.prog 88 #[.pointer (some ⟨w1.heap.size, 0, none⟩), .int .i64 (i : Int)] w fun e w' => e = .returned (.agg #[.int .i64 x, .int .i64 (x + u)]) ∧ Below w.heap.size w w' := by
  obtain ⟨b, o, ⟨x', u'⟩, rfl, hb, hx', hc⟩ := (hR.below h.on).at_ hi
  obtain ⟨rfl, rfl⟩ : x = x' ∧ u = u' := by rw [hx] at hx'; injection hx' with e; injection e with e1 e2; exact ⟨e1, e2⟩
  have r0 := hc 0 _ rfl
  have r1 := hc 1 _ rfl
  simp only [Nat.add_zero] at r0
  have hbd := hR.2.1
  obtain ⟨⟨_, _, _, _, k4, _, _⟩, _, _⟩ := h.cells
  have hi2 : (i : Int) < (nr : Int) := by omega
  clear hx hx' hc hR h
  go_enter Tryz.func88, Tryz.ntmps88
  go_wp2_with fail
  exact bodyPost_ret (v := .agg #[.int .i64 x, .int .i64 (x + u)]) (by simp [results, Tryz.results88, go_sem]) rfl ⟨rfl, by go_grown⟩
set_option maxHeartbeats 4000000 in
set_option maxRecDepth 100000 in
theorem wput14_to {x0 x1 x2 x3 x4 x5 x6 x7 : Int} (hy : NearI x5) (hh : NearI x7) (hn : n ≤ 100000) (h : Wk w1 An nn cn Ar nr cr w s A n c A2 m c2) :
    Calls Tryz.prog 89 #[.pointer (some ⟨w1.heap.size, 0, none⟩), .agg #[.int .i64 x0, .int .i64 x1, .int .i64 x2, .int .i64 x3, .int .i64 x4, .int .i64 x5, .int .i64 x6, .int .i64 x7]] w fun e w' => e = .returned (.tuple #[]) ∧ WkOut w1 An nn cn Ar nr cr w A n c { s with ams := s.ams ++ [⟨x0, x1, x2, x3, x4, x5, x6, x7⟩], pen := (x5 + x7, 0) } w' := by
  obtain ⟨q0, hq0, hy0, hy1, hy2⟩ := info_parts am_info14
  have H := Lib.hid h
  have HY := Lib.hid hy
  have HH := Lib.hid hh
  clear h hy hh
  go_enter Tryz.func89, Tryz.ntmps89
  go_wp2_with fail
  generalize hW : World.alloc w _ = W
  have hal : Below w.heap.size w W := by rw [← hW]; exact (Below.refl _ _).alloc (Nat.le_refl _) _
  have HB := Lib.hid (show Box W w.heap.size (encAm ⟨x0, x1, x2, x3, x4, x5, x6, x7⟩) by rw [← hW]; exact box8 w ⟨x0, x1, x2, x3, x4, x5, x6, x7⟩ _)
  have HK := Lib.hid (H.out.below hal)
  have HF := Lib.hid (FrW.of_below (k := w1.heap.size) (r := (Value.slice A n c).ownBlock) hal)
  have HRL := Lib.hid (owns_block_lt H.out.gs.ams)
  have hkw : w1.heap.size < w.heap.size := H.out.box.1
  have hwW : w.heap.size < W.heap.size := HB.out.1
  have HWL := Lib.hid hal.size
  clear hW hal H
  have HB' := Lib.hid HB.out.drew
  have HK' := Lib.hid (HK.out.below (Below.refl _ _).drew)
  have HF' := Lib.hid (HF.out.same (FrW.of_below (k := w1.heap.size) (r := (Value.slice A n c).ownBlock) (Below.refl W.heap.size W).drew))
  refine wp_region_held_tail 12 (S := fun W' => W'.cell? ⟨w1.heap.size, 0, none⟩ = some (.slice A n c) ∧ W'.cell? ⟨w.heap.size, 0, none⟩ = some (.int .i64 x0) ∧ W'.cell? ⟨w.heap.size, 1, none⟩ = some (.int .i64 x1) ∧ W'.cell? ⟨w.heap.size, 2, none⟩ = some (.int .i64 x2) ∧ W'.cell? ⟨w.heap.size, 3, none⟩ = some (.int .i64 x3) ∧ W'.cell? ⟨w.heap.size, 4, none⟩ = some (.int .i64 x4) ∧ W'.cell? ⟨w.heap.size, 5, none⟩ = some (.int .i64 x5) ∧ W'.cell? ⟨w.heap.size, 6, none⟩ = some (.int .i64 x6) ∧ W'.cell? ⟨w.heap.size, 7, none⟩ = some (.int .i64 x7)) (by kernel_rfl) (by kernel_rfl) rfl ⟨HK'.out.cells.1.1, am_of HB'.out⟩ (fun h0 => ?_)
  simp only [headOf, List.take_succ_cons, List.take_zero, List.getElem_toArray, List.getElem_cons_succ, List.getElem_cons_zero]
  have hsd : W.heap.size = W.drew.heap.size := rfl
  generalize W.drew = U at HK' HB' HF' h0 hsd ⊢
  rw [hsd] at hwW HWL
  clear hsd HK HB HF
  refine wpAnyH_take (i := 0) (v := ?_) rfl (by kernel_rfl) (by kernel_rfl) (by kernel_rfl) (fun _ _ _ h => h) (Or.inl ⟨by rfl, ?_⟩) h0 ?_
  rotate_left
  · intro w hSw; (try dsimp only at hSw); obtain ⟨s0, s1, s2, s3, s4, s5, s6, s7, s8⟩ := hSw; go_simp; with_reducible rfl
  try simp only [Act.put, List.setIfInBounds_toArray, List.set_cons_zero, List.set_cons_succ]
  refine wpAnyH_take (i := 1) (v := ?_) rfl (by kernel_rfl) (by kernel_rfl) (by kernel_rfl) (fun _ _ _ h => h) (Or.inl ⟨by rfl, ?_⟩) h0 ?_
  rotate_left
  · intro w hSw; (try dsimp only at hSw); obtain ⟨s0, s1, s2, s3, s4, s5, s6, s7, s8⟩ := hSw; go_simp; with_reducible rfl
  try simp only [Act.put, List.setIfInBounds_toArray, List.set_cons_zero, List.set_cons_succ]
  refine wpAnyH_take (i := 2) (v := ?_) rfl (by kernel_rfl) (by kernel_rfl) (by kernel_rfl) (fun _ _ _ h => h) (Or.inl ⟨by rfl, ?_⟩) h0 ?_
  rotate_left
  · intro w hSw; (try dsimp only at hSw); obtain ⟨s0, s1, s2, s3, s4, s5, s6, s7, s8⟩ := hSw; go_simp; with_reducible rfl
  try simp only [Act.put, List.setIfInBounds_toArray, List.set_cons_zero, List.set_cons_succ]
  refine wpAnyH_take (i := 3) (v := ?_) rfl (by kernel_rfl) (by kernel_rfl) (by kernel_rfl) (fun _ _ _ h => h) (Or.inl ⟨by rfl, ?_⟩) h0 ?_
  rotate_left
  · intro w hSw; (try dsimp only at hSw); obtain ⟨s0, s1, s2, s3, s4, s5, s6, s7, s8⟩ := hSw; go_simp; with_reducible rfl
  try simp only [Act.put, List.setIfInBounds_toArray, List.set_cons_zero, List.set_cons_succ]
  refine wpAnyH_take (i := 4) (v := ?_) rfl (by kernel_rfl) (by kernel_rfl) (by kernel_rfl) (fun _ _ _ h => h) (Or.inl ⟨by rfl, ?_⟩) h0 ?_
  rotate_left
  · intro w hSw; (try dsimp only at hSw); obtain ⟨s0, s1, s2, s3, s4, s5, s6, s7, s8⟩ := hSw; go_simp; with_reducible rfl
  try simp only [Act.put, List.setIfInBounds_toArray, List.set_cons_zero, List.set_cons_succ]
  refine wpAnyH_take (i := 5) (v := ?_) rfl (by kernel_rfl) (by kernel_rfl) (by kernel_rfl) (fun _ _ _ h => h) (Or.inl ⟨by rfl, ?_⟩) h0 ?_
  rotate_left
  · intro w hSw; (try dsimp only at hSw); obtain ⟨s0, s1, s2, s3, s4, s5, s6, s7, s8⟩ := hSw; go_simp; with_reducible rfl
  try simp only [Act.put, List.setIfInBounds_toArray, List.set_cons_zero, List.set_cons_succ]
  refine wpAnyH_take (i := 6) (v := ?_) rfl (by kernel_rfl) (by kernel_rfl) (by kernel_rfl) (fun _ _ _ h => h) (Or.inl ⟨by rfl, ?_⟩) h0 ?_
  rotate_left
  · intro w hSw; (try dsimp only at hSw); obtain ⟨s0, s1, s2, s3, s4, s5, s6, s7, s8⟩ := hSw; go_simp; with_reducible rfl
  try simp only [Act.put, List.setIfInBounds_toArray, List.set_cons_zero, List.set_cons_succ]
  refine wpAnyH_ready (rs := [7]) (by kernel_rfl) (by simp) ?_
  refine AllReadyH.cons rfl (fun K hK => ?_) AllReadyH.nil
  go_simp
  have hal : Below U.heap.size U (U.alloc (.cells #[.int .i64 x0, .int .i64 x1, .int .i64 x2, .int .i64 x3, .int .i64 x4, .int .i64 x5, .int .i64 x6, .int .i64 x7] 44)) := (Below.refl _ U).alloc (Nat.le_refl _) _
  have hN := box8 U ⟨x0, x1, x2, x3, x4, x5, x6, x7⟩ 44
  have HB2 := Lib.hid (HB'.out.below hal)
  have HK2 := Lib.hid (HK'.out.below hal)
  have HF2 := Lib.hid (HF'.out.same (FrW.of_below (k := w1.heap.size) (r := (Value.slice A n c).ownBlock) hal))
  refine hK.out _ _ ⟨HK2.out.cells.1.1, am_of HB2.out⟩ (fun h1 => ?_)
  clear hK K
  try simp only [Act.put, List.setIfInBounds_toArray, List.set_cons_zero, List.set_cons_succ]
  refine wpAnyH_ready (rs := [8]) (by kernel_rfl) (by simp) ?_
  refine AllReadyH.cons rfl (fun K hK => ?_) AllReadyH.nil
  refine step_append_cells_at rfl (.tmp 9) (.tmp 11) _ rfl (w1.heap.size + 1) 44 q0 (.agg #[.int .i64 0, .int .i64 0, .int .i64 0, .int .i64 0, .int .i64 0, .int .i64 0, .int .i64 0, .int .i64 0]) 8 64 Tryz.underlying25 hq0 hy0 hy1 hy2 rfl (by decide) _ n _ rfl HK2.out.gs.ams _ 1 1 _ (by decide) rfl (cells_box8 hN) (encAm_one _) (by unfold maxLen; omega) (by omega) (by have := HK2.out.box.1; omega) ?_
  intro A7 c7 w6 hown6 hg6 ha6
  have HW := Lib.hid (HK2.out.am hown6 hg6 ha6)
  have HNR := Lib.hid (Wk.am_new (A := A) (n := n) (c := c) ha6)
  have HFW := Lib.hid ((HF2.out.same (FrW.of_grown (k := w1.heap.size) (r := (Value.slice A n c).ownBlock) hg6 (fun j e => .inr (.inl e)))).same (FrW.set w1.heap.size _ w6 0 (.slice A7 (n + 1) c7)))
  have hb6 : Box w6 w.heap.size (encAm ⟨x0, x1, x2, x3, x4, x5, x6, x7⟩) := HB2.out.grown hg6 (fun r e => by have := HRL.out r e; omega)
  have HK6 := Lib.hid (HK2.out.box.grown hg6 (fun r e => by have := HK2.out.ra r e; omega))
  have HB6 := Lib.hid (hb6.set_other (show w1.heap.size ≠ w.heap.size by omega) 0 (.slice A7 (n + 1) c7))
  refine hK.out _ _ ⟨HK6.out.2.2 0 _ rfl, am_of hb6⟩ (fun h3 => ?_)
  clear hK K
  try simp only [Act.put, List.setIfInBounds_toArray, List.set_cons_zero, List.set_cons_succ]
  refine wpAnyH_take (i := 9) (v := ?_) rfl (by kernel_rfl) (by kernel_rfl) (by kernel_rfl) (fun _ _ _ h => h) (Or.inl ⟨by rfl, ?_⟩) h3 ?_
  rotate_left
  · intro w hSw; (try dsimp only at hSw); obtain ⟨s0, s1, s2, s3, s4, s5, s6, s7, s8⟩ := hSw; go_simp; with_reducible rfl
  try simp only [Act.put, List.setIfInBounds_toArray, List.set_cons_zero, List.set_cons_succ]
  refine wpAnyH_take (i := 10) (v := ?_) rfl (by kernel_rfl) (by kernel_rfl) (by kernel_rfl) (fun _ _ _ h => h) (Or.inl ⟨by rfl, ?_⟩) h3 ?_
  rotate_left
  · intro w hSw; (try dsimp only at hSw); obtain ⟨s0, s1, s2, s3, s4, s5, s6, s7, s8⟩ := hSw; go_simp; with_reducible rfl
  try simp only [Act.put, List.setIfInBounds_toArray, List.set_cons_zero, List.set_cons_succ]
  refine wpAnyH_take (i := 11) (v := ?_) rfl (by kernel_rfl) (by kernel_rfl) (by kernel_rfl) (fun _ _ _ h => h) (Or.inl ⟨by rfl, ?_⟩) h3 ?_
  rotate_left
  · intro w hSw; (try dsimp only at hSw); obtain ⟨s0, s1, s2, s3, s4, s5, s6, s7, s8⟩ := hSw; go_simp; with_reducible rfl
  try simp only [Act.put, List.setIfInBounds_toArray, List.set_cons_zero, List.set_cons_succ]
  refine wpAnyH_done (by kernel_rfl) ?_ _
  show wpList _ _ _ _ _ _
  have k0 : w6.cell? ⟨w1.heap.size, 0, none⟩ = some (.slice A n c) := HK6.out.2.2 0 _ rfl
  have f0 : w6.frozen? ⟨w1.heap.size, 0, none⟩ = false := HK6.out.2.1 0
  have HNR2 := Lib.hid (show NewRow w.heap.size (.slice A n c) (.slice A7 (n + 1) c7) from by rcases HNR.out with h9 | h9; exact .inl h9; exact .inr (fun r e => by have := h9 r e; simp at this; omega))
  clear h0 h1 h3 hal hN HB2 HK2 HF2 hown6 hg6 ha6 hb6 HK6 HK' HB' HF' HRL HNR
  go_wp2_with fail
  clear k0 f0
  generalize w6.setCell ⟨w1.heap.size, 0, none⟩ (.slice A7 (n + 1) c7) = V at HW HFW HB6 ⊢
  obtain ⟨⟨_, _, _, _, _, k5, k6⟩, _, _⟩ := HW.out.cells
  have p0 := OnW.cell k5
  have p1 := OnW.cell k6
  have e5 := OnW.cell (am_of HB6.out).2.2.2.2.2.1
  have e7 := OnW.cell (am_of HB6.out).2.2.2.2.2.2.2
  simp only at p0 p1 e5 e7
  clear k5 k6
  refine wp_region_on_tail 12 (by kernel_rfl) (by kernel_rfl) rfl (by kernel_rfl) ?_
  simp only [headOf, List.take_succ_cons, List.take_zero, List.getElem_toArray, List.getElem_cons_succ, List.getElem_cons_zero]
  repeat (go_big_quiet_step ((go_at_call 124; with_reducible exact Calls.on_of (put13_top HY.out HH.out))))
  refine wpQuiet_nil ?_
  intro w3 hw'
  obtain ⟨⟨w', hOn⟩, hw''⟩ := hw'
  obtain rfl : w3 = w' := hw''
  have HW3 := Lib.hid (HW.out.below hOn)
  have HF3 := Lib.hid (HFW.out.same (FrW.of_below (k := w1.heap.size) (r := (Value.slice A n c).ownBlock) hOn))
  clear hOn p0 p1 e5 e7 HW HFW HB6
  obtain ⟨⟨_, _, _, _, _, k5, k6⟩, ⟨_, _, _, f5, f6⟩, kl⟩ := HW3.out.cells
  go_wp2_with fail
  go_end0
  exact ⟨rfl, A7, n + 1, c7, A2, m, c2, HW3.out.pen (x5 + x7) 0, HF3.out.same (frw_pen _ _ _ _ _), HNR2.out⟩
end
end Go.Proofs.YtdjnaejblgheoaaGreat
/- The program's functions of package lines that speak of one strip: its band, whether it has room, where it goes down to. -/
namespace Go.Proofs.YtdjnaejblgheoaaGreat
open Go.RowKit
set_option linter.unusedVariables false
set_option linter.unusedSimpArgs false
/-- a strip's cells. -/
def strp (a b : Int) (A : Option Addr) (n c : Nat) (y h : Int) : List Value := [.int .i64 a, .int .i64 b, .slice A n c, .int .i64 y, .int .i64 h]
theorem strp_of {w : World} {k : Nat} {a b : Int} {A : Option Addr} {n c : Nat} {y h : Int} (hX : Box w k (strp a b A n c y h)) :
    (w.cell? ⟨k, 0, none⟩ = some (.int .i64 a) ∧ w.cell? ⟨k, 1, none⟩ = some (.int .i64 b) ∧ w.cell? ⟨k, 2, none⟩ = some (.slice A n c) ∧ w.cell? ⟨k, 3, none⟩ = some (.int .i64 y) ∧ w.cell? ⟨k, 4, none⟩ = some (.int .i64 h)) ∧ (∀ o, w.frozen? ⟨k, o, none⟩ = false) ∧ k < w.heap.size :=
  ⟨⟨hX.2.2 0 _ rfl, hX.2.2 1 _ rfl, hX.2.2 2 _ rfl, hX.2.2 3 _ rfl, hX.2.2 4 _ rfl⟩, hX.2.1, hX.1⟩
theorem grown_below12 {w w' : World} {row : Option Nat} (h : Below w.heap.size w w') : w.grownBy w' row := ⟨h.os, h.tape, h.output, h.size, fun k hk _ => h.block k hk⟩
set_option maxHeartbeats 2000000 in
theorem sband_to {l : List Fl} {a b y h p q : Int} (hv : bandL l y h (a, b) = (p, q)) (hn : ∀ f ∈ l, f.near) (hy : NearY y) (hh : NearI h) {A : Option Addr} {n c : Nat} {w : World} (hA : Rows 7 encFl w A n l) :
    Calls Tryz.prog 126 #[.agg #[.int .i64 a, .int .i64 b, .slice A n c, .int .i64 y, .int .i64 h]] w fun e w' => e = .returned (.agg #[.int .i64 p, .int .i64 q]) ∧ Below w.heap.size w w' := by
  have HC := Lib.hid (show ∀ W', On w W' → Calls Tryz.prog 146 #[.slice A n c, .int .i64 y, .int .i64 h, .agg #[.int .i64 a, .int .i64 b]] W' fun e w' => e = .returned (.agg #[.int .i64 p, .int .i64 q]) ∧ Below W'.heap.size W' w' from fun W' ho => bof_to hv hn hy hh (hA.on ho))
  clear hv hn hy hh hA
  go_enter Tryz.func126, Tryz.ntmps126
  go_wp2_with fail
  generalize hW : World.alloc (World.alloc w _) _ = W
  have HR := Lib.hid (show Box W (w.heap.size + 1) [.int .i64 0, .int .i64 0] by rw [← hW]; exact Box.new2' _ _ _ _ _ (by simp))
  have HB := Lib.hid (show Below w.heap.size w W by rw [← hW]; go_grown)
  clear hW
  refine (HC.out W HB.out).mono ?_
  rintro e w1 ⟨rfl, hb⟩
  have HR1 := Lib.hid (HR.out.below hb)
  have HB1 := Lib.hid (below_then HB.out hb)
  clear hb HR HB
  obtain ⟨r0, r1, f0, f1, r4⟩ := HR1.out.of2
  go_wp2_with fail
  have hY := (HR1.out.set 0 (.int .i64 p) (by simp)).set 1 (.int .i64 q) (by simp)
  have s0 := hY.2.2 0 _ rfl
  have s1 := hY.2.2 1 _ rfl
  exact bodyPost_ret (v := .agg #[.int .i64 p, .int .i64 q]) (by simp [results, Tryz.results126, go_sem, s0, s1]) rfl ⟨rfl, (HB1.out.setCell (by simp) _).setCell (by simp) _⟩
set_option maxHeartbeats 4000000 in
theorem sroom_to {l : List Fl} {a b y h u : Int} {v : Bool} (hv : roomB l h u a b y = v) (hn : ∀ f ∈ l, f.near) (hy : NearY y) (hh : NearI h) (ha : NearI a) (hb : NearI b) {A : Option Addr} {n c : Nat} {w : World} (hA : Rows 7 encFl w A n l) :
    Calls Tryz.prog 144 #[.agg #[.int .i64 a, .int .i64 b, .slice A n c, .int .i64 y, .int .i64 h], .int .i64 u] w fun e w' => e = .returned (.bool v) ∧ Below w.heap.size w w' := by
  obtain ⟨⟨p, q⟩, hp⟩ : ∃ r, bandL l y h (a, b) = r := ⟨_, rfl⟩
  obtain ⟨g, hg⟩ : ∃ g, lenW p q = g := ⟨_, rfl⟩
  have hbd := bandL_bd hn y h (a, b) ⟨ha.y, hb.y⟩
  rw [hp] at hbd
  have hv2 : (decide (u ≤ g) || (decide (p = a) && decide (q = b))) = v := by
    rw [← hv]; unfold roomB fitsF; rw [hp]; simp only; rw [hg]
  have HV := Lib.hid hv2
  have HG := Lib.hid (plen_to hg hbd.1 hbd.2)
  have HC := Lib.hid (show ∀ W', On w W' → Calls Tryz.prog 126 #[.agg #[.int .i64 a, .int .i64 b, .slice A n c, .int .i64 y, .int .i64 h]] W' fun e w' => e = .returned (.agg #[.int .i64 p, .int .i64 q]) ∧ Below W'.heap.size W' w' from fun W' ho => sband_to hp hn hy hh (hA.on ho))
  clear hv hv2 hn hy hh hA ha hb hp hg hbd
  go_enter Tryz.func144, Tryz.ntmps144
  go_wp2_with fail
  generalize hW : World.alloc w _ = W
  have HS := Lib.hid (show Box W w.heap.size (strp a b A n c y h) by rw [← hW]; exact Box.new w (strp a b A n c y h) _)
  have HB := Lib.hid (show Below w.heap.size w W by rw [← hW]; go_grown)
  clear hW
  refine (HC.out W HB.out).mono ?_
  rintro e w1 ⟨rfl, hb⟩
  have HS1 := Lib.hid (HS.out.below hb)
  have HB1 := Lib.hid (below_then HB.out hb)
  clear hb HS HB
  go_wp2_with ((with_reducible refine stop_dst 9 ?_ ?_); exact rfl)
  refine Stop.intro ?_
  generalize hW : World.alloc w1 _ = W2
  have HD := Lib.hid (show Box W2 w1.heap.size [.int .i64 p, .int .i64 q] by rw [← hW]; exact Box.new2 _ _ _ _)
  have HS2 := Lib.hid (show Box W2 w.heap.size (strp a b A n c y h) by rw [← hW]; exact HS1.out.alloc _)
  have HB2 := Lib.hid (show Below w.heap.size w W2 by rw [← hW]; exact HB1.out.alloc HB1.out.size _)
  clear hW HS1 HB1
  obtain ⟨d0, d1, _, _, d4⟩ := HD.out.of2
  obtain ⟨⟨e0, e1, e2, e3, e4⟩, _⟩ := strp_of HS2.out
  by_cases h1 : u ≤ g
  · have HT := Lib.hid (show true = v by rw [← HV.out, decide_eq_true h1]; rfl)
    clear HV
    go_wp2_with fail
    refine (HG.out _).mono ?_
    rintro e w3 ⟨rfl, hb⟩
    have HB3 := Lib.hid (below_then HB2.out hb)
    clear hb
    go_wp2_with fail
    go_ret
    exact ⟨ret_bool HT.out, HB3.out⟩
  · have h1' : g < u := by omega
    have HD2 := Lib.hid (show decide (u ≤ g) = false from decide_eq_false h1)
    clear h1
    go_wp2_with fail
    refine (HG.out _).mono ?_
    rintro e w3 ⟨rfl, hb⟩
    have HB3 := Lib.hid (below_then HB2.out hb)
    have HD3 := Lib.hid (HD.out.below hb)
    have HS3 := Lib.hid (HS2.out.below hb)
    clear hb d0 d1 d4 e0 e1 e2 e3 e4 HD HS2 HB2
    obtain ⟨d0, d1, _, _, d4⟩ := HD3.out.of2
    obtain ⟨⟨e0, e1, e2, e3, e4⟩, _⟩ := strp_of HS3.out
    by_cases h2 : p = a
    · by_cases h3 : q = b
      · have HT := Lib.hid (show true = v by rw [← HV.out, decide_eq_true h2, decide_eq_true h3]; simp)
        have k2 : (p == a) = true := by simpa using h2
        have k3 : (q == b) = true := by simpa using h3
        clear HV h2 h3
        go_wp2_with fail
        go_ret
        exact ⟨ret_bool HT.out, HB3.out⟩
      · have HT := Lib.hid (show false = v by rw [← HV.out, HD2.out, decide_eq_false h3]; simp)
        have k2 : (p == a) = true := by simpa using h2
        have k3 : (q == b) = false := by simpa using h3
        clear HV h2 h3
        go_wp2_with fail
        go_ret
        exact ⟨ret_bool (HD2.out.trans HT.out), HB3.out⟩
    · have HT := Lib.hid (show false = v by rw [← HV.out, HD2.out, decide_eq_false h2]; simp)
      have k2 : (p == a) = false := by simpa using h2
      clear HV h2
      go_wp2_with fail
      go_ret
      exact ⟨ret_bool (HD2.out.trans HT.out), HB3.out⟩
/-- where the strip in block k stands. -/
def yOf (k : Nat) (w : World) : Int := match w.cell? ⟨k, 3, none⟩ with
  | some (.int _ z) => z
  | _ => 0
theorem yOf_of {w : World} {k : Nat} {a b : Int} {A : Option Addr} {n c : Nat} {y h : Int} (hX : Box w k (strp a b A n c y h)) : yOf k w = y := by
  unfold yOf
  rw [(strp_of hX).1.2.2.2.1]
theorem Rows.grownk {w0 w w' : World} {A : Option Addr} {n k : Nat} {l : List Fl} (hA : Rows 7 encFl w0 A n l) (hB : Below w0.heap.size w0 w) (hk : w0.heap.size ≤ k) (hg : w.grownBy w' (some k)) : Rows 7 encFl w' A n l :=
  hA.below (Below.grown hB hg hB.size (fun j hj => by injection hj with hj; omega))
set_option maxHeartbeats 8000000 in
theorem sdown_to {l : List Fl} {a b y h u t : Int} (hv : seekE l h u a b y = t) (hn : ∀ f ∈ l, f.near) (hy : NearY y) (hh : NearI h) (ha : NearI a) (hb : NearI b) {A : Option Addr} {n c k : Nat} {w0 w : World} (hA : Rows 7 encFl w0 A n l) (hB : Below w0.heap.size w0 w) (hX : Box w k (strp a b A n c y h)) (hk : w0.heap.size ≤ k) :
    Calls Tryz.prog 125 #[.pointer (some ⟨k, 0, none⟩), .int .i64 u] w fun e w' => e = .returned (.tuple #[]) ∧ Box w' k (strp a b A n c t h) ∧ w.grownBy w' (some k) := by
  have HV := Lib.hid hv
  have HN := Lib.hid hn
  have HY := Lib.hid hy
  have HH := Lib.hid hh
  have HNA := Lib.hid ha
  have HNB := Lib.hid hb
  have HA := Lib.hid hA
  have HB := Lib.hid hB
  have HX := Lib.hid hX
  have HG0 := Lib.hid (World.grownBy.refl w (some k))
  clear hv hn hy hh ha hb hA hB hX
  go_enter Tryz.func125, Tryz.ntmps125
  go_wp2_with fail
  go_loopw [4, 5] (fun nx ok wr => ∃ z, Hid (NearY z) ∧ Hid (seekE l h u a b z = t) ∧ Hid (Box wr k (strp a b A n c z h)) ∧ Hid (w.grownBy wr (some k))) (fun _ _ wr => cntA l (yOf k wr))
  case atStart => exact ⟨y, HY, HV, HX, HG0⟩
  case round =>
    obtain ⟨z, HZ, HSK, HD, HG⟩ := hrel
    obtain ⟨r, hr⟩ : ∃ r, roomB l h u a b z = r := ⟨_, rfl⟩
    have HRM := Lib.hid (sroom_to (A := A) (n := n) (c := c) hr HN.out HZ.out HH.out HNA.out HNB.out (Rows.grownk HA.out HB.out hk HG.out))
    obtain ⟨⟨e0, e1, e2, e3, e4⟩, ef, el⟩ := strp_of HD.out
    go_wp2_with fail
    refine HRM.out.mono ?_
    rintro e w1 ⟨rfl, hb⟩
    have HD1 := Lib.hid (HD.out.below hb)
    have HG1 := Lib.hid (HG.out.trans (grown_below12 hb))
    clear hb e0 e1 e2 e3 e4 ef el HRM
    cases r with
    | true =>
      have HT := Lib.hid (show z = t by rw [← HSK.out, seek_room hr])
      clear hr
      go_wp2_with fail
      go_end0
      exact ⟨rfl, by rw [← HT.out]; exact HD1.out, HG1.out⟩
    | false =>
      obtain ⟨hnt, hsk⟩ := seek_down hr
      obtain ⟨⟨nx, ok⟩, hnx⟩ : ∃ r, nextL l z h a b = r := ⟨_, rfl⟩
      rw [hnx] at hnt hsk
      obtain rfl : ok = true := hnt
      have HS2 := Lib.hid (show seekE l h u a b nx = t by rw [← hsk]; exact HSK.out)
      have HCN := Lib.hid (show cntA l nx < cntA l z by
        have := cnt_next (l := l) (y := z) (h := h) (a := a) (b := b) (by rw [hnx])
        rw [hnx] at this; exact this)
      have HUY := Lib.hid (show NearY nx by have := nextL_bd HN.out z h a b; rw [hnx] at this; exact this)
      have HNX := Lib.hid hnx
      clear hr hsk hnx
      go_wp2_with fail
      have HRR := Lib.hid (Rows.grownk HA.out HB.out hk HG1.out)
      have HC3 := Lib.hid (show ∀ p' : OnW w1, Calls Tryz.prog 145 #[.slice A n c, .int .i64 z, .int .i64 h, .agg #[.int .i64 a, .int .i64 b]] p'.w fun e w' => e = .returned (.tuple #[.int .i64 nx, .bool true]) ∧ Below p'.w.heap.size p'.w w' from fun p' => bnext_to HNX.out HN.out HZ.out HH.out (HRR.out.below p'.h))
      obtain ⟨⟨p0, p1, p2, p3, p4⟩, pf, pl⟩ := strp_of HD1.out
      have k0 := OnW.cell p0
      have k1 := OnW.cell p1
      have k2 := OnW.cell p2
      have k3 := OnW.cell p3
      have k4 := OnW.cell p4
      clear p0 p1 p2 p3 p4 pf pl HRR
      refine wp_region_on (by kernel_rfl) (by kernel_rfl) ?_
      repeat (go_big_quiet_step ((first
        | (go_at_call 145; with_reducible exact Calls.on_of (HC3.out _)))))
      refine wpQuiet_nil ?_
      intro w7 hw'
      obtain ⟨⟨w8, hOn⟩, hw''⟩ := hw'
      obtain rfl : w7 = w8 := hw''
      have HG7 := Lib.hid (HG1.out.trans (grown_below12 hOn))
      have HD7 := Lib.hid (HD1.out.below hOn)
      clear hOn k0 k1 k2 k3 k4 HC3 HD1 HG1
      obtain ⟨⟨p0, p1, p2, p3, p4⟩, pf, pl⟩ := strp_of HD7.out
      have f3 := pf 3
      clear pf
      go_wp2_with fail
      have HD8 := Lib.hid (show Box (w7.setCell ⟨k, 3, none⟩ (.int .i64 nx)) k (strp a b A n c nx h) from HD7.out.set 3 (.int .i64 nx) (by simp [strp]))
      have HG8 := Lib.hid (HG7.out.trans (grownBy_setCellN w7 k 3 (.int .i64 nx)))
      go_roundw
      case rel => exact ⟨nx, HUY, HS2, HD8, HG8⟩
      case measure => rw [yOf_of HD8.out, yOf_of HD.out]; exact HCN.out
end Go.Proofs.YtdjnaejblgheoaaGreat
/- The program's functions of package lines that are called from outside it: a line, what has room, a text's lines. -/
namespace Go.Proofs.YtdjnaejblgheoaaGreat
open Go.RowKit
set_option linter.unusedVariables false
set_option linter.unusedSimpArgs false
set_option maxHeartbeats 4000000 in
set_option maxRecDepth 100000 in
theorem sline_to {l : List Fl} {ws : List Int} {sp h a b y : Int} {i : Nat} {v : Ln} (hv : lineL l ws sp h a b i y = v) (hi : i < ws.length) (hn : ∀ f ∈ l, f.near) (hy : NearY y) (hh : NearI h) (ha : NearI a) (hb : NearI b) (hws : Near9 ws sp) {A A2 : Option Addr} {n c m c2 : Nat} (hm : m ≤ 1000) {w : World} (hA : Rows 7 encFl w A n l) (hW : Ints w A2 m ws) :
    Calls Tryz.prog 123 #[.agg #[.int .i64 a, .int .i64 b, .slice A n c, .int .i64 y, .int .i64 h], .slice A2 m c2, .int .i64 sp, .int .i64 (i : Int)] w fun e w' => e = .returned (.agg #[.int .i64 v.from_, .int .i64 v.to_, .int .i64 v.x, .int .i64 v.y, .int .i64 v.w]) ∧ Below w.heap.size w w' := by
  have hlm : ws.length = m := hW.1
  obtain ⟨t, ht⟩ : ∃ t, seekE l h (wordI ws i) a b y = t := ⟨_, rfl⟩
  obtain ⟨⟨p, q⟩, hp⟩ : ∃ r, bandL l t h (a, b) = r := ⟨_, rfl⟩
  obtain ⟨g, hg⟩ : ∃ g, lenW p q = g := ⟨_, rfl⟩
  obtain ⟨⟨r0, r1, r2⟩, hr⟩ : ∃ r, takeI ws sp g (i : Int) = r := ⟨_, rfl⟩
  have hbd := bandL_bd hn t h (a, b) ⟨ha.y, hb.y⟩
  rw [hp] at hbd
  have hty : NearY t := by rw [← ht]; exact seekE_bd hn h _ a b hy
  have hr0 : r0 = (i : Int) := by
    rw [takeI_nat hi] at hr
    unfold takeN at hr
    injection hr with e0 _
    exact e0.symm
  have hev : v = ⟨(i : Int), r1, p, t, r2⟩ := by
    rw [takeI_nat hi] at hr
    unfold takeN at hr
    injection hr with e0 e12
    injection e12 with e1 e2
    rw [← hv, ← e1, ← e2]
    unfold lineL
    rw [ht, hp]
    simp only
    rw [hg]
  subst hev hr0
  have HDN := Lib.hid (show ∀ (k : Nat) (W : World), w.heap.size ≤ k → Below w.heap.size w W → Box W k (strp a b A n c y h) → Calls Tryz.prog 125 #[.pointer (some ⟨k, 0, none⟩), .int .i64 (wordI ws i)] W fun e w' => e = .returned (.tuple #[]) ∧ Box w' k (strp a b A n c t h) ∧ W.grownBy w' (some k) from fun k W hk hB hX => sdown_to ht hn hy hh ha hb hA hB hX hk)
  have HBN := Lib.hid (show ∀ W', On w W' → Calls Tryz.prog 126 #[.agg #[.int .i64 a, .int .i64 b, .slice A n c, .int .i64 t, .int .i64 h]] W' fun e w' => e = .returned (.agg #[.int .i64 p, .int .i64 q]) ∧ Below W'.heap.size W' w' from fun W' ho => sband_to hp hn hty hh (hA.on ho))
  have HTK := Lib.hid (show ∀ W', On w W' → Calls Tryz.prog 81 #[.slice A2 m c2, .int .i64 sp, .int .i64 g, .int .i64 (i : Int)] W' fun e w' => e = .returned (.agg #[.int .i64 (i : Int), .int .i64 r1, .int .i64 r2]) ∧ Below W'.heap.size W' w' from fun W' ho => ptake9_to hr hws (by constructor <;> omega) (by
    have := hbd.1; have := hbd.2; rw [← hg]; unfold lenW NearY farB at *; constructor <;> split <;> omega) hm (hW.below (B := w.heap.size) ho rfl))
  have HG := Lib.hid (plen_to hg hbd.1 hbd.2)
  have him : (i : Int) < (m : Int) := by omega
  have hi0 : (0 : Int) ≤ (i : Int) := by omega
  obtain ⟨b2, o2, rfl, hcell⟩ := ints_on12 hW (show i < m by omega)
  have HCL := Lib.hid hcell
  clear hv ht hp hg hr hn hy hh ha hb hws hA hW hbd hcell hlm hi hty
  go_enter Tryz.func123, Tryz.ntmps123
  go_wp2_with ((with_reducible refine stop_dst 22 ?_ ?_); exact rfl)
  refine Stop.intro ?_
  generalize hW : World.alloc (World.alloc w _) _ = W
  have HX := Lib.hid (show Box W w.heap.size (strp a b A n c y h) by rw [← hW]; exact (Box.new w (strp a b A n c y h) _).alloc _)
  have HR := Lib.hid (show Box W (w.heap.size + 1) [.int .i64 0, .int .i64 0, .int .i64 0, .int .i64 0, .int .i64 0] by rw [← hW]; exact Box.new5l _ _ _ _ _ _ _ _ (by simp))
  have HB := Lib.hid (show Below w.heap.size w W by rw [← hW]; go_grown)
  clear hW
  have jc := HCL.out W HB.out
  go_wp2_with fail
  refine (HDN.out w.heap.size W (Nat.le_refl _) HB.out HX.out).mono ?_
  rintro e w1 ⟨rfl, hX1, hg1⟩
  have HX1 := Lib.hid hX1
  have HR1 := Lib.hid (HR.out.grown hg1 (fun r e => by injection e with e; omega))
  have HB1 := Lib.hid (Below.grown HB.out hg1 HB.out.size (fun r e => by injection e with e; omega))
  clear hX1 hg1 HX HR HB jc
  obtain ⟨⟨e0, e1, e2, e3, e4⟩, _⟩ := strp_of HX1.out
  go_wp2_with fail
  refine (HBN.out w1 HB1.out).mono ?_
  rintro e w2 ⟨rfl, hb⟩
  have HX2 := Lib.hid (HX1.out.below hb)
  have HR2 := Lib.hid (HR1.out.below hb)
  have HB2 := Lib.hid (below_then HB1.out hb)
  clear hb HX1 HR1 HB1 e0 e1 e2 e3 e4
  go_wp2_with ((with_reducible refine stop_dst 29 ?_ ?_); exact rfl)
  refine Stop.intro ?_
  generalize hZ : w2.alloc _ = Z
  have HM := Lib.hid (show Box Z w2.heap.size [.int .i64 p, .int .i64 q] by rw [← hZ]; exact Box.new2 _ _ _ _)
  have HXZ := Lib.hid (show Box Z w.heap.size (strp a b A n c t h) by rw [← hZ]; exact HX2.out.alloc _)
  have HRZ := Lib.hid (show Box Z (w.heap.size + 1) [.int .i64 0, .int .i64 0, .int .i64 0, .int .i64 0, .int .i64 0] by rw [← hZ]; exact HR2.out.alloc _)
  have HBZ := Lib.hid (show Below w.heap.size w Z by rw [← hZ]; exact HB2.out.alloc HB2.out.size _)
  clear hZ HX2 HR2 HB2
  obtain ⟨m0, m1, _, _, m4⟩ := HM.out.of2
  go_wp2_with fail
  refine (HG.out _).mono ?_
  rintro e w3 ⟨rfl, hb⟩
  have HM3 := Lib.hid (HM.out.below hb)
  have HX3 := Lib.hid (HXZ.out.below hb)
  have HR3 := Lib.hid (HRZ.out.below hb)
  have HB3 := Lib.hid (below_then HBZ.out hb)
  clear hb HM HXZ HRZ HBZ m0 m1 m4
  go_wp2_with fail
  refine (HTK.out w3 HB3.out).mono ?_
  rintro e w7 ⟨rfl, hb⟩
  have HM7 := Lib.hid (HM3.out.below hb)
  have HX7 := Lib.hid (HX3.out.below hb)
  have HR7 := Lib.hid (HR3.out.below hb)
  have HB7 := Lib.hid (below_then HB3.out hb)
  clear hb HM3 HX3 HR3 HB3
  go_wp2_with ((with_reducible refine stop_dst 33 ?_ ?_); exact rfl)
  refine Stop.intro ?_
  generalize hZ : w7.alloc _ = Z7
  have HRZ := Lib.hid (show Box Z7 (w.heap.size + 1) [.int .i64 0, .int .i64 0, .int .i64 0, .int .i64 0, .int .i64 0] by rw [← hZ]; exact HR7.out.alloc _)
  have HXZ := Lib.hid (show Box Z7 w.heap.size (strp a b A n c t h) by rw [← hZ]; exact HX7.out.alloc _)
  have HMZ := Lib.hid (show Box Z7 w2.heap.size [.int .i64 p, .int .i64 q] by rw [← hZ]; exact HM7.out.alloc _)
  have HTZ := Lib.hid (show Box Z7 w7.heap.size [.int .i64 (i : Int), .int .i64 r1, .int .i64 r2] by rw [← hZ]; exact box3 _ _ _ _ _)
  have HBZ := Lib.hid (show Below w.heap.size w Z7 by rw [← hZ]; exact HB7.out.alloc HB7.out.size _)
  clear hZ HTK HCL HR7 HM7 HB7 HX7 HDN HBN HG
  obtain ⟨m0, m1, _, _, m4⟩ := HMZ.out.of2
  obtain ⟨⟨t0, t1, t2⟩, _⟩ := HTZ.out.of3w
  obtain ⟨⟨e0, e1, e2, e3, e4⟩, _⟩ := strp_of HXZ.out
  obtain ⟨_, qf, ql⟩ := HRZ.out.of5l
  have f0 := qf 0
  have f1 := qf 1
  have f2 := qf 2
  have f3 := qf 3
  have f4 := qf 4
  have q0 := HRZ.out.of5l.1.1
  have q1 := HRZ.out.of5l.1.2.1
  have q2 := HRZ.out.of5l.1.2.2.1
  have q3 := HRZ.out.of5l.1.2.2.2.1
  have q4 := HRZ.out.of5l.1.2.2.2.2
  clear qf
  go_wp2_with fail
  have hY := ((((HRZ.out.set 0 (.int .i64 (i : Int)) (by simp)).set 1 (.int .i64 r1) (by simp)).set 2 (.int .i64 p) (by simp)).set 3 (.int .i64 t) (by simp)).set 4 (.int .i64 r2) (by simp)
  have s0 := hY.2.2 0 _ rfl
  have s1 := hY.2.2 1 _ rfl
  have s2 := hY.2.2 2 _ rfl
  have s3 := hY.2.2 3 _ rfl
  have s4 := hY.2.2 4 _ rfl
  exact bodyPost_ret (v := .agg #[.int .i64 (i : Int), .int .i64 r1, .int .i64 p, .int .i64 t, .int .i64 r2]) (by simp [results, Tryz.results123, go_sem, s0, s1, s2, s3, s4]) rfl ⟨rfl, ((((HBZ.out.setCell (by simp) _).setCell (by simp) _).setCell (by simp) _).setCell (by simp) _).setCell (by simp) _⟩
end Go.Proofs.YtdjnaejblgheoaaGreat
/- The program's functions of package lines that are called from outside it: what has room, a text's lines. -/
namespace Go.Proofs.YtdjnaejblgheoaaGreat
open Go.RowKit
set_option linter.unusedVariables false
set_option linter.unusedSimpArgs false
theorem box_newNl (w : World) (vs : List Value) (t : TypeId) (n : Nat) (h : n = w.heap.size) : Box (w.alloc (.cells vs.toArray t)) n vs := by subst h; exact Box.new w vs t
set_option maxHeartbeats 4000000 in
set_option maxRecDepth 100000 in
theorem sroomtop_to {l : List Fl} {h u a b y t p q : Int} (ht : seekE l h u a b y = t) (hp : bandL l t h (a, b) = (p, q)) (hn : ∀ f ∈ l, f.near) (hy : NearY y) (hh : NearI h) (ha : NearI a) (hb : NearI b) {A : Option Addr} {n c : Nat} {w : World} (hA : Rows 7 encFl w A n l) :
    Calls Tryz.prog 90 #[.slice A n c, .int .i64 u, .int .i64 h, .int .i64 y, .agg #[.int .i64 a, .int .i64 b]] w fun e w' => e = .returned (.tuple #[.agg #[.int .i64 p, .int .i64 q], .int .i64 t]) ∧ Below w.heap.size w w' := by
  have hty : NearY t := by rw [← ht]; exact seekE_bd hn h _ a b hy
  have HDN := Lib.hid (show ∀ (k : Nat) (W : World), w.heap.size ≤ k → Below w.heap.size w W → Box W k (strp a b A n c y h) → Calls Tryz.prog 125 #[.pointer (some ⟨k, 0, none⟩), .int .i64 u] W fun e w' => e = .returned (.tuple #[]) ∧ Box w' k (strp a b A n c t h) ∧ W.grownBy w' (some k) from fun k W hk hB hX => sdown_to ht hn hy hh ha hb hA hB hX hk)
  have HBN := Lib.hid (show ∀ W', On w W' → Calls Tryz.prog 126 #[.agg #[.int .i64 a, .int .i64 b, .slice A n c, .int .i64 t, .int .i64 h]] W' fun e w' => e = .returned (.agg #[.int .i64 p, .int .i64 q]) ∧ Below W'.heap.size W' w' from fun W' ho => sband_to hp hn hty hh (hA.on ho))
  clear ht hp hn hy hh ha hb hA hty
  go_enter Tryz.func90, Tryz.ntmps90
  go_wp2_with ((with_reducible refine stop_dst 19 ?_ ?_); exact rfl)
  refine Stop.intro ?_
  generalize hW : World.alloc (World.alloc (World.alloc w _) _) _ = W
  have HX := Lib.hid (show Box W (w.heap.size + 1 + 1) (strp a b A n c y h) by rw [← hW]; exact box_newNl _ (strp a b A n c y h) _ _ (by simp))
  have HR := Lib.hid (show Box W (w.heap.size + 1) [.int .i64 0, .int .i64 0] by rw [← hW]; exact (Box.new2' _ _ _ _ _ (by simp)).alloc _)
  have HB := Lib.hid (show Below w.heap.size w W by rw [← hW]; go_grown)
  clear hW
  go_wp2_with fail
  refine (HDN.out (w.heap.size + 1 + 1) W (by omega) HB.out HX.out).mono ?_
  rintro e w1 ⟨rfl, hX1, hg1⟩
  have HR1 := Lib.hid (HR.out.grown hg1 (fun r e => by injection e with e; omega))
  have HB1 := Lib.hid (Below.grown HB.out hg1 HB.out.size (fun r e => by injection e with e; omega))
  have HX1 := Lib.hid hX1
  clear hX1 hg1 HX HR HB
  go_wp2_with fail
  refine Go.wp_region_held_drew (S := fun W' => Box W' (w.heap.size + 1 + 1) (strp a b A n c t h)) (by kernel_rfl) HX1.out.drew (fun h1 => ?_)
  show wpAnyH _ _ _ _ _ 6 (Array.replicate 6 false) _ _
  have HR2 := Lib.hid HR1.out.drew
  have HB2 := Lib.hid HB1.out.drew
  clear HR1 HB1 HX1
  generalize w1.drew = U at h1 HR2 HB2 ⊢
  refine wpAnyH_take (i := 0) (v := ?_) rfl (by kernel_rfl) (by kernel_rfl) (by kernel_rfl) (fun _ _ _ h => h) (Or.inl ⟨by rfl, ?_⟩) h1 ?_
  rotate_left
  · intro w hSw; (try dsimp only at hSw); obtain ⟨⟨g0, g1, g2, g3, g4⟩, _⟩ := strp_of hSw; go_simp; with_reducible rfl
  try simp only [Act.put, List.getElem_toArray, List.getElem_cons_succ, List.getElem_cons_zero, List.setIfInBounds_toArray, List.set_cons_zero, List.set_cons_succ]
  refine wpAnyH_take (i := 2) (v := ?_) rfl (by kernel_rfl) (by kernel_rfl) (by kernel_rfl) (fun _ _ _ h => h) (Or.inl ⟨by rfl, ?_⟩) h1 ?_
  rotate_left
  · intro w hSw; (try dsimp only at hSw); obtain ⟨⟨g0, g1, g2, g3, g4⟩, _⟩ := strp_of hSw; go_simp; with_reducible rfl
  try simp only [Act.put, List.getElem_toArray, List.getElem_cons_succ, List.getElem_cons_zero, List.setIfInBounds_toArray, List.set_cons_zero, List.set_cons_succ]
  refine wpAnyH_take (i := 3) (v := ?_) rfl (by kernel_rfl) (by kernel_rfl) (by kernel_rfl) (fun _ _ _ h => h) (Or.inl ⟨by rfl, ?_⟩) h1 ?_
  rotate_left
  · intro w hSw; (try dsimp only at hSw); obtain ⟨⟨g0, g1, g2, g3, g4⟩, _⟩ := strp_of hSw; go_simp; with_reducible rfl
  try simp only [Act.put, List.getElem_toArray, List.getElem_cons_succ, List.getElem_cons_zero, List.setIfInBounds_toArray, List.set_cons_zero, List.set_cons_succ]
  refine wpAnyH_ready (rs := [1]) (by kernel_rfl) (by simp) ?_
  refine AllReadyH.cons rfl (fun K hK => ?_) AllReadyH.nil
  go_simp
  refine (HBN.out U HB2.out).mono ?_
  rintro e w4 ⟨rfl, hb⟩
  have HR4 := Lib.hid (HR2.out.below hb)
  have HB4 := Lib.hid (below_then HB2.out hb)
  refine hK.out _ _ (h1.below hb) (fun h2 => ?_)
  clear hK K hb
  try simp only [Act.put, List.getElem_toArray, List.getElem_cons_succ, List.getElem_cons_zero, List.setIfInBounds_toArray, List.set_cons_zero, List.set_cons_succ]
  refine wpAnyH_ready (rs := [4]) (by kernel_rfl) (by simp) ?_
  refine AllReadyH.cons rfl (fun K hK => ?_) AllReadyH.nil
  obtain ⟨r0, r1, f0, f1, r4⟩ := HR4.out.of2
  go_simp
  have hY := Lib.hid ((HR4.out.set 0 (.int .i64 p) (by simp)).set 1 (.int .i64 q) (by simp))
  have HB5 := Lib.hid ((HB4.out.setCell (p := ⟨w.heap.size + 1, 0, none⟩) (by simp) (.int .i64 p)).setCell (p := ⟨w.heap.size + 1, 1, none⟩) (by simp) (.int .i64 q))
  refine hK.out _ _ ((h2.set_other (m := w.heap.size + 1) (by omega) 0 (.int .i64 p)).set_other (m := w.heap.size + 1) (by omega) 1 (.int .i64 q)) (fun h3 => ?_)
  clear hK K
  try simp only [Act.put, List.getElem_toArray, List.getElem_cons_succ, List.getElem_cons_zero, List.setIfInBounds_toArray, List.set_cons_zero, List.set_cons_succ]
  refine wpAnyH_take (i := 5) (v := ?_) rfl (by kernel_rfl) (by kernel_rfl) (by kernel_rfl) (fun _ _ _ h => h) (Or.inl ⟨by rfl, ?_⟩) h3 ?_
  rotate_left
  · intro w hSw; (try dsimp only at hSw); obtain ⟨⟨g0, g1, g2, g3, g4⟩, _⟩ := strp_of hSw; go_simp; with_reducible rfl
  try simp only [Act.put, List.getElem_toArray, List.getElem_cons_succ, List.getElem_cons_zero, List.setIfInBounds_toArray, List.set_cons_zero, List.set_cons_succ]
  refine wpAnyH_done (by kernel_rfl) ?_ _
  have s0 := hY.out.2.2 0 _ rfl
  have s1 := hY.out.2.2 1 _ rfl
  clear r0 r1 f0 f1 r4 h1 h2 h3
  go_wp2_with fail
  exact bodyPost_ret (v := .tuple #[.agg #[.int .i64 p, .int .i64 q], .int .i64 t]) (by simp [results, Tryz.results90, go_sem, s0, s1]) rfl ⟨rfl, HB5.out⟩
end Go.Proofs.YtdjnaejblgheoaaGreat
/- The program's function of package place that moves a search down until it has room, or nothing is in its way. -/
namespace Go.Proofs.YtdjnaejblgheoaaGreat
open Go.RowKit
set_option linter.unusedVariables false
set_option linter.unusedSimpArgs false
/-- where the search in block m stands. -/
def yAt (m : Nat) (w : World) : Int := match w.cell? ⟨m, 4, none⟩ with
  | some (.int _ z) => z
  | _ => 0
theorem yAt_of {w : World} {m : Nat} {f0 f1 f2 x y f5 f6 : Int} {A : Option Addr} {n c : Nat} {a b : Int} (h : Box w m (srch f0 f1 f2 x y f5 f6 A n c a b)) : yAt m w = y := by
  unfold yAt
  rw [(srch_of h).1.2.2.2.2.1]
set_option maxHeartbeats 8000000 in
theorem down_to11 {l : List Fl} {f0 f1 f2 x y t f5 f6 a b : Int} (hv : seekE l f6 f5 a b y = t) (hn : ∀ f ∈ l, f.near) (hy : NearY y) (hh : NearI f6) (ha : NearI a) (hb : NearI b) {A : Option Addr} {n c m : Nat} {w0 w : World} (h : Rows 7 encFl w0 A n l) (hB : Below w0.heap.size w0 w) (hX : Box w m (srch f0 f1 f2 x y f5 f6 A n c a b)) (hm : w0.heap.size ≤ m) :
    Calls Tryz.prog 148 #[.pointer (some ⟨m, 0, none⟩)] w fun e w' => e = .returned (.tuple #[]) ∧ Box w' m (srch f0 f1 f2 x t f5 f6 A n c a b) ∧ Below w0.heap.size w0 w' := by
  have HV := Lib.hid hv
  have HN := Lib.hid hn
  have HY := Lib.hid hy
  have HH := Lib.hid hh
  have HAY := Lib.hid ha.y
  have HBY := Lib.hid hb.y
  have HA := Lib.hid h
  have HB := Lib.hid hB
  have HX := Lib.hid hX
  clear hv hn hy hh ha hb h hB hX
  go_enter Tryz.func148, Tryz.ntmps148
  go_wp2_with fail
  go_loopw [2, 3] (fun nx ok wr => ∃ z, Hid (NearY z) ∧ Hid (seekE l f6 f5 a b z = t) ∧ Hid (Box wr m (srch f0 f1 f2 x z f5 f6 A n c a b)) ∧ Hid (Below w0.heap.size w0 wr)) (fun _ _ wr => cntA l (yAt m wr))
  case atStart => exact ⟨y, HY, HV, HX, HB⟩
  case round =>
    obtain ⟨z, HZ, HSK, HD, HB⟩ := hrel
    obtain ⟨⟨p, q⟩, hb1⟩ : ∃ r, bandL l z f6 (a, b) = r := ⟨_, rfl⟩
    obtain ⟨v, hv⟩ : ∃ v, lenW p q = v := ⟨_, rfl⟩
    have hbd := bandL_bd HN.out z f6 (a, b) ⟨HAY.out, HBY.out⟩
    rw [hb1] at hbd
    have HC1 := Lib.hid (show ∀ p' : OnW wr, Calls Tryz.prog 167 #[.pointer (some ⟨m, 0, none⟩)] p'.w fun e w' => e = .returned (.agg #[.int .i64 p, .int .i64 q]) ∧ Below p'.w.heap.size p'.w w' from fun p' => band_to hb1 HN.out HZ.out HH.out (HA.out.below (below_then HB.out p'.h)) (HD.out.below p'.h))
    have HC2 := Lib.hid (show ∀ p' : OnW wr, Calls Tryz.prog 71 #[.agg #[.int .i64 p, .int .i64 q]] p'.w fun e w' => e = .returned (.int .i64 v) ∧ Below p'.w.heap.size p'.w w' from fun p' => plen_to hv hbd.1 hbd.2 _)
    have hfz : fitsF l f6 f5 a b z = decide (f5 ≤ v) := by unfold fitsF; rw [hb1]; simp only; rw [hv]
    have k5 := OnW.cell (srch_of HD.out).1.2.2.2.2.2.1
    clear hb1 hv hbd
    by_cases hfit : f5 ≤ v
    · have HT := Lib.hid (show z = t by rw [← HSK.out, seekE_fits (by rw [hfz]; exact decide_eq_true hfit)])
      clear hfz
      go_wp2_with fail
      refine wp_region_on (by kernel_rfl) (by kernel_rfl) ?_
      repeat (go_big_quiet_step ((first
        | (go_at_call 167; with_reducible exact Calls.on_of (HC1.out _))
        | (go_at_call 71; with_reducible exact Calls.on_of (HC2.out _)))))
      refine wpQuiet_nil ?_
      intro w5 hw'
      obtain ⟨⟨w6, hOn⟩, hw''⟩ := hw'
      obtain rfl : w5 = w6 := hw''
      have HB5 := Lib.hid (below_then HB.out hOn)
      have HD5 := Lib.hid (HD.out.below hOn)
      clear hOn k5
      go_wp2_with fail
      go_end0
      exact ⟨rfl, by rw [← HT.out]; exact HD5.out, HB5.out⟩
    · have hfit2 : v < f5 := by omega
      have HNF := Lib.hid (show fitsF l f6 f5 a b z = false by rw [hfz]; exact decide_eq_false hfit)
      obtain ⟨⟨u, ok⟩, hnx⟩ : ∃ r, nextL l z f6 a b = r := ⟨_, rfl⟩
      have HNX := Lib.hid hnx
      have HUY := Lib.hid (show NearY u by have := nextL_bd HN.out z f6 a b; rw [hnx] at this; exact this)
      clear hnx hfz hfit
      go_wp2_with fail
      refine wp_region_on (by kernel_rfl) (by kernel_rfl) ?_
      repeat (go_big_quiet_step ((first
        | (go_at_call 167; with_reducible exact Calls.on_of (HC1.out _))
        | (go_at_call 71; with_reducible exact Calls.on_of (HC2.out _)))))
      refine wpQuiet_nil ?_
      intro w5 hw'
      obtain ⟨⟨w6, hOn⟩, hw''⟩ := hw'
      obtain rfl : w5 = w6 := hw''
      have HB5 := Lib.hid (below_then HB.out hOn)
      have HD5 := Lib.hid (HD.out.below hOn)
      clear hOn k5
      go_wp2_with fail
      have HC3 := Lib.hid (show ∀ p' : OnW w5, Calls Tryz.prog 145 #[.slice A n c, .int .i64 z, .int .i64 f6, .agg #[.int .i64 a, .int .i64 b]] p'.w fun e w' => e = .returned (.tuple #[.int .i64 u, .bool ok]) ∧ Below p'.w.heap.size p'.w w' from fun p' => bnext_to HNX.out HN.out HZ.out HH.out (HA.out.below (below_then HB5.out p'.h)))
      obtain ⟨⟨p0, p1, p2, p3, p4, p5, p6⟩, ⟨p7, p8, p9⟩, p10, p11⟩ := srch_of HD5.out
      have k4 := OnW.cell p4
      have k6 := OnW.cell p6
      have k7 := OnW.cell p7
      have k8 := OnW.cell p8
      have k9 := OnW.cell p9
      clear p0 p1 p2 p3 p4 p5 p6 p7 p8 p9 p10 p11
      refine wp_region_on (by kernel_rfl) (by kernel_rfl) ?_
      repeat (go_big_quiet_step ((first
        | (go_at_call 145; with_reducible exact Calls.on_of (HC3.out _)))))
      refine wpQuiet_nil ?_
      intro w7 hw'
      obtain ⟨⟨w8, hOn⟩, hw''⟩ := hw'
      obtain rfl : w7 = w8 := hw''
      have HB7 := Lib.hid (below_then HB5.out hOn)
      have HD7 := Lib.hid (HD5.out.below hOn)
      clear hOn k4 k6 k7 k8 k9 HB5 HD5 HC1 HC2 HC3
      cases ok with
      | false =>
        have HT := Lib.hid (show z = t by rw [← HSK.out, seekE_none HNF.out (by rw [HNX.out])])
        go_wp2_with fail
        exact bodyPost_ret (v := .tuple #[]) (by simp [results, Tryz.results148, go_sem]) rfl ⟨rfl, by rw [← HT.out]; exact HD7.out, HB7.out⟩
      | true =>
        have HS2 := Lib.hid (show seekE l f6 f5 a b u = t by
          have := seekE_next HNF.out (by rw [HNX.out])
          rw [HNX.out] at this
          rw [← this]; exact HSK.out)
        have HCN := Lib.hid (show cntA l u < cntA l z by
          have := cnt_next (l := l) (y := z) (h := f6) (a := a) (b := b) (by rw [HNX.out])
          rw [HNX.out] at this; exact this)
        obtain ⟨⟨p0, p1, p2, p3, p4, p5, p6⟩, ⟨p7, p8, p9⟩, p10, p11⟩ := srch_of HD7.out
        go_wp2_with fail
        have HD8 := Lib.hid (show Box (w7.setCell ⟨m, 4, none⟩ (.int .i64 u)) m (srch f0 f1 f2 x u f5 f6 A n c a b) from HD7.out.set 4 (.int .i64 u) (by simp [srch]))
        go_roundw
        case rel => exact ⟨u, HUY, HS2, HD8, Lib.hid (HB7.out.setCell hm _)⟩
        case measure => rw [yAt_of HD8.out, yAt_of HD.out]; exact HCN.out
end Go.Proofs.YtdjnaejblgheoaaGreat
/- The program's function of package place that places a float. -/
namespace Go.Proofs.YtdjnaejblgheoaaGreat
open Go.RowKit
set_option linter.unusedVariables false
set_option linter.unusedSimpArgs false
set_option maxHeartbeats 8000000 in
theorem placed11_to {l : List Fl} {f0 f1 f2 f3 f4 f5 f6 y a b x t : Int} {A : Option Addr} {n c : Nat} {w : World} (hx : spotX l ⟨f0, f1, f2, f3, f4, f5, f6⟩ y a b = x) (ht : spotY l ⟨f0, f1, f2, f3, f4, f5, f6⟩ y a b = t) (hn : ∀ g ∈ l, g.near) (hf : (⟨f0, f1, f2, f3, f4, f5, f6⟩ : Fl).near) (hy : NearI y) (ha : NearI a) (hb : NearI b) (h : Rows 7 encFl w A n l) :
    Calls Tryz.prog 128 #[.slice A n c, .agg #[.int .i64 f0, .int .i64 f1, .int .i64 f2, .int .i64 f3, .int .i64 f4, .int .i64 f5, .int .i64 f6], .int .i64 y, .agg #[.int .i64 a, .int .i64 b]] w fun e w' => e = .returned (.agg #[.int .i64 f0, .int .i64 f1, .int .i64 f2, .int .i64 x, .int .i64 t, .int .i64 f5, .int .i64 f6]) ∧ Below w.heap.size w w' := by
  have h5 : NearI f5 := hf.2.2.1
  have h6 : NearI f6 := hf.2.2.2
  have hsy : NearY (startY l y) := startY_bd hn hy
  have hsk : seekE l f6 f5 a b (startY l y) = t := by rw [← ht, spotY_seek]
  have hty : NearY t := by rw [← ht]; exact seekF_bd hn _ _ _ _ _ _ hsy
  obtain ⟨⟨p, q⟩, hpq⟩ : ∃ r, bandL l t f6 (a, b) = r := ⟨_, rfl⟩
  have hxx : (if f1 = 1 then p else max p (q - f5)) = x := by
    rw [← hx]; unfold spotX; rw [ht]; simp only; rw [hpq]
  obtain ⟨V, hV⟩ : ∃ V, ((w.alloc (.cells #[.int .i64 f0, .int .i64 f1, .int .i64 f2, .int .i64 f3, .int .i64 f4, .int .i64 f5, .int .i64 f6] 42)).alloc (.cells #[.int .i64 a, .int .i64 b] 94)).alloc (.cells #[.int .i64 0, .int .i64 0, .int .i64 0, .int .i64 0, .int .i64 0, .int .i64 0, .int .i64 0] 42) = V := ⟨_, rfl⟩
  have hwV : Below w.heap.size w V := by rw [← hV]; go_grown
  have hsz : V.heap.size = w.heap.size + 1 + 1 + 1 := by rw [← hV]; simp
  have HRS := Lib.hid (show Box V (w.heap.size + 1 + 1) (encFl ⟨0, 0, 0, 0, 0, 0, 0⟩) by rw [← hV]; exact (show w.heap.size + 1 + 1 = ((w.alloc (.cells #[.int .i64 f0, .int .i64 f1, .int .i64 f2, .int .i64 f3, .int .i64 f4, .int .i64 f5, .int .i64 f6] 42)).alloc (.cells #[.int .i64 a, .int .i64 b] 94)).heap.size by simp) ▸ box7 _ ⟨0, 0, 0, 0, 0, 0, 0⟩ _)
  have HVV := Lib.hid hV
  have HB := Lib.hid hwV
  have HX0 := Lib.hid (show Box (V.alloc (.cells (srch f0 f1 f2 f3 f4 f5 f6 A n c a b).toArray 187)) (w.heap.size + 1 + 1 + 1) (srch f0 f1 f2 f3 f4 f5 f6 A n c a b) by
    have := Box.new V (srch f0 f1 f2 f3 f4 f5 f6 A n c a b) 187
    rw [hsz] at this; exact this)
  have HB0 := Lib.hid (show Below V.heap.size V (V.alloc (.cells (srch f0 f1 f2 f3 f4 f5 f6 A n c a b).toArray 187)) from (Below.refl _ _).alloc (Nat.le_refl _) _)
  have HN := Lib.hid hn
  have HY := Lib.hid hy
  have HSY := Lib.hid hsy
  have HTY := Lib.hid hty
  have H5 := Lib.hid h5
  have H6 := Lib.hid h6
  have HA1 := Lib.hid ha
  have HB1 := Lib.hid hb
  have HSK := Lib.hid hsk
  have HPQ := Lib.hid hpq
  have HXX := Lib.hid hxx
  have HA := Lib.hid (h.below hwV)
  clear hx ht hn hf hy ha hb h h5 h6 hsy hsk hty hpq hxx hV hwV
  have HSZ := Lib.hid hsz
  clear hsz
  go_enter Tryz.func128, Tryz.ntmps128
  go_wp2_with fail
  rw [HVV.out]
  refine (begin_to (t := startY l y) rfl HN.out HA.out HB0.out HX0.out (Nat.le_of_eq HSZ.out)).mono ?_
  rintro e w1 ⟨rfl, hx1, hb1⟩
  have HX2 := Lib.hid hx1
  have HB2 := Lib.hid hb1
  clear hx1 hb1 HX0 HB0
  go_wp2_with fail
  refine (down_to11 HSK.out HN.out HSY.out H6.out HA1.out HB1.out HA.out HB2.out HX2.out (Nat.le_of_eq HSZ.out)).mono ?_
  rintro e w2 ⟨rfl, hx1, hb1⟩
  have HX3 := Lib.hid hx1
  have HB3 := Lib.hid hb1
  clear hx1 hb1 HX2 HB2
  go_wp2_with fail
  refine (stand_to HPQ.out HXX.out HN.out HTY.out H5.out H6.out HA1.out HB1.out HA.out HB3.out HX3.out (Nat.le_of_eq HSZ.out)).mono ?_
  rintro e w3 ⟨rfl, hx1, hb1⟩
  have HX4 := Lib.hid hx1
  have HB4 := Lib.hid hb1
  clear hx1 hb1 HX3 HB3
  obtain ⟨⟨p0, p1, p2, p3, p4, p5, p6⟩, ⟨p7, p8, p9⟩, p10, p11⟩ := srch_of HX4.out
  have HR4 := Lib.hid (HRS.out.below HB4.out)
  obtain ⟨⟨r0, r1, r2, r3, r4, r5, r6⟩, rBl⟩ := HR4.out.of7
  have rfz := HR4.out.2.1
  go_wp2_with fail
  have hY := ((((((HR4.out.set 0 (.int .i64 f0) (by simp [encFl])).set 1 (.int .i64 f1) (by simp [encFl])).set 2 (.int .i64 f2) (by simp [encFl])).set 3 (.int .i64 x) (by simp [encFl])).set 4 (.int .i64 t) (by simp [encFl])).set 5 (.int .i64 f5) (by simp [encFl])).set 6 (.int .i64 f6) (by simp [encFl])
  have s0 := hY.2.2 0 _ rfl
  have s1 := hY.2.2 1 _ rfl
  have s2 := hY.2.2 2 _ rfl
  have s3 := hY.2.2 3 _ rfl
  have s4 := hY.2.2 4 _ rfl
  have s5 := hY.2.2 5 _ rfl
  have s6 := hY.2.2 6 _ rfl
  refine bodyPost_ret (v := .agg #[.int .i64 f0, .int .i64 f1, .int .i64 f2, .int .i64 x, .int .i64 t, .int .i64 f5, .int .i64 f6]) (by simp [results, Tryz.results128, go_sem, s0, s1, s2, s3, s4, s5, s6]) rfl ⟨rfl, ?_⟩
  have HE := Lib.hid (HB.out.trans (Below.mono HB4.out HB.out.size))
  have hle : w.heap.size ≤ w.heap.size + 1 + 1 := by omega
  exact ((((((HE.out.setCell hle _).setCell hle _).setCell hle _).setCell hle _).setCell hle _).setCell hle _).setCell hle _
end Go.Proofs.YtdjnaejblgheoaaGreat
/- The document's answers for package valid: Is. (Written by program: tools/drafts/genrefcnt.py.) -/
namespace Go.Proofs.YtdjnaejblgheoaaGreat
open Go.RowKit
set_option linter.unusedVariables false
set_option linter.unusedSimpArgs false
theorem one_bad {l : List Nd} {k : Nat} {x : Nd} (hx : l[k]? = some x) (h : oneB x = false) : docB l = false := by
  unfold docB
  have : l.all oneB = false := by
    rw [List.all_eq_false]
    exact ⟨x, List.mem_of_getElem? hx, by rw [h]; simp⟩
  rw [this]; rfl
theorem one_good {l : List Nd} (h : ∀ (j : Nat) (x : Nd), j < l.length → l[j]? = some x → oneB x = true) : docB l = forestB l := by
  unfold docB
  have : l.all oneB = true := by
    rw [List.all_eq_true]
    intro x hx
    obtain ⟨j, hj, rfl⟩ := List.getElem_of_mem hx
    exact h j _ hj (List.getElem?_eq_getElem hj)
  rw [this]; rfl
set_option maxHeartbeats 4000000 in
set_option maxRecDepth 100000 in
theorem vIs_to {l : List Nd} {v : Bool} (hv : docB l = v) {A : Option Addr} {n c : Nat} {w : World} (h : Sees w A n l) : Calls Tryz.prog 95 #[.slice A n c] w fun e w' => e = .returned (.bool v) ∧ Below w.heap.size w w' := by
  have hla := h.len
  have hbd := h.bound
  have HA := Lib.hid h
  have HV := Lib.hid hv
  clear h hv
  go_enter Tryz.func95, Tryz.ntmps95
  go_wp2_with fail
  go_loopw [3] (fun i wr => ∃ k : Nat, k ≤ n ∧ i = .int .i64 k ∧ (∀ (j : Nat) (x : Nd), j < k → l[j]? = some x → oneB x = true) ∧ On w wr) (fun i _ => n - (intOf i).toNat)
  case atStart => exact ⟨0, by omega, rfl, fun j x hj => by omega, On.refl w⟩
  case round =>
    obtain ⟨k, hk, rfl, hall, hon⟩ := hrel
    have HL := Lib.hid hall
    have HO := Lib.hid hon
    clear hall hon
    by_cases hlt : k < n
    · obtain ⟨b1, o1, m1, x1, rfl, hb1, e1, r1, s1⟩ := (HA.out.on HO.out).at_ hlt
      have hk2 : (k : Int) < (n : Int) := by omega
      have R1 := Lib.hid (range_on r1)
      have S1 := Lib.hid s1
      have E1 := Lib.hid e1
      obtain ⟨u, hu⟩ : ∃ u, oneB x1 = u := ⟨_, rfl⟩
      have HU := Lib.hid hu
      clear r1 s1 e1 hu
      go_wp2_with ((with_reducible refine stop_load 40 (.tmp 12) ?_ ?_); exact rfl; refine Stop.intro ?_; refine wpList_load_mid rfl 40 (.tmp 12) rfl b1 (o1 + k * 20) rfl (encM m1) _ (R1.out wr (On.refl wr)) Tryz.underlying40 rfl (by kernel_rfl) ?_)
      refine (vone_to HU.out _ S1.out).mono ?_
      rintro e w5 ⟨rfl, hb5⟩
      have HO5 := Lib.hid (below_then HO.out hb5)
      clear hb5
      cases u with
      | false =>
        have HW := Lib.hid (show v = false by rw [← HV.out]; exact one_bad E1.out HU.out)
        go_wp2_with fail
        go_ret
        exact ⟨ret_bool HW.out.symm, HO5.out⟩
      | true =>
        go_wp2_with fail
        go_roundw
        case rel => exact ⟨k + 1, by omega, by go_num, fun j x hj hx => by
          by_cases e : j = k
          · subst e
            have := E1.out
            rw [this] at hx
            injection hx with hx
            subst hx
            exact HU.out
          · exact HL.out j x (by omega) hx, HO5.out⟩
        case measure => simp [intOf]; omega
    · have hk2 : (n : Int) ≤ (k : Int) := by omega
      have HW := Lib.hid (show forestB l = v by rw [← HV.out]; exact (one_good (fun j x hj => HL.out j x (by omega))).symm)
      go_wp2_with fail
      refine (vrows_all HW.out (HA.out.on HO.out)).mono ?_
      rintro e w5 ⟨rfl, hb5⟩
      have HO5 := Lib.hid (below_then HO.out hb5)
      clear hb5
      go_wp2_with fail
      go_ret
      exact ⟨rfl, HO5.out⟩
end Go.Proofs.YtdjnaejblgheoaaGreat
/- The document's plus. -/
namespace Go.Proofs.YtdjnaejblgheoaaGreat
open Go.RowKit
set_option linter.unusedVariables false
set_option linter.unusedSimpArgs false
theorem vplus_any (a b : Int) (w : World) (ha : 0 ≤ a ∧ a ≤ 1099511627777) (hb : 0 ≤ b ∧ b ≤ 4611686018427387904) : Calls Tryz.prog 96 #[.int .i64 a, .int .i64 b] w fun e w' => e = .returned (.int .i64 (min (a + b) 1099511627777)) ∧ w = w' := by
  obtain ⟨a1, a2⟩ := ha
  obtain ⟨b1, b2⟩ := hb
  go_enter Tryz.func96, Tryz.ntmps96
  go_wp2_with fail
  go_ret
  exact ⟨rfl, rfl⟩
theorem vplus_on {a b c : Int} (hc : min (a + b) 1099511627777 = c) (w : World) (ha : 0 ≤ a ∧ a ≤ 1099511627777) (hb : 0 ≤ b ∧ b ≤ 4611686018427387904) : Calls Tryz.prog 96 #[.int .i64 a, .int .i64 b] w fun e w' => e = .returned (.int .i64 c) ∧ Below w.heap.size w w' := by
  subst hc
  exact (vplus_any a b w ha hb).mono fun e w' ⟨h, k⟩ => ⟨h, by rw [← k]; exact Below.refl _ _⟩
end Go.Proofs.YtdjnaejblgheoaaGreat
/- The program's package valid: what a round of count makes of what is known. Nothing of the program stands here. -/
namespace Go.Proofs.YtdjnaejblgheoaaGreat
open Go
set_option linter.unusedVariables false
set_option linter.unusedSimpArgs false
def upTo (l : List Nd) (k : Nat) : Prop := NestTo l k ∧ ∀ (j : Nat) (x : Nd), j < k → l[j]? = some x → x.fits
theorem upTo.zero (l : List Nd) : upTo l 0 := ⟨NestTo.zero l, fun j x h => by omega⟩
theorem upTo.succ {l : List Nd} {k : Nat} {x : Nd} (h : upTo l k) (hx : l[k]? = some x) (hn : NestAt l k) (hf : x.fits) : upTo l (k + 1) :=
  ⟨h.1.succ hn, fun j y hj hy => by
    rcases Nat.lt_or_ge j k with hjk | hjk
    · exact h.2 j y hjk hy
    · obtain rfl : j = k := by omega
      rw [hx] at hy; injection hy with hy; subst hy; exact hf⟩
theorem upTo.all {l : List Nd} {k : Nat} (h : upTo l k) (hk : l.length ≤ k) : IsDoc l := by
  refine ⟨fun x hx => ?_, (forest_iff_nested l).2 (h.1.all hk)⟩
  obtain ⟨j, hj, rfl⟩ := List.getElem_of_mem hx
  exact h.2 j _ (by omega) (List.getElem?_eq_getElem hj)
/-- the ends that are open ahead of place k: the whole row's, and blocks'. -/
def endsAt (l : List Nd) (k : Nat) : List Int := (l.length : Int) :: opnV l k ((k : Int) - 1)
def endsIn (l : List Nd) (k : Nat) : List Int := (l.length : Int) :: opnV l k k
theorem endsAt_zero (l : List Nd) : endsAt l 0 = [(l.length : Int)] := rfl
theorem ends_split {l : List Nd} {k : Nat} (h : upTo l k) : ∃ m, endsAt l k = endsIn l k ++ List.replicate m (k : Int) := by
  have hf := open_falls (z := (k : Int) - 1) h.1 (Int.le_refl _)
  obtain ⟨m, hm⟩ := falls_split (c := (k : Int)) hf (fun e he => by have := (mem_opnV.1 he).1; omega)
  rw [opnV_up l k (by omega)] at hm
  exact ⟨m, by unfold endsAt endsIn; rw [List.cons_append, ← hm]⟩
theorem endsIn_last (l : List Nd) (k : Nat) : (endsIn l k).getLast? = some (lastEnd l k) := by
  unfold endsIn lastEnd
  rcases h : (opnV l k k) with _ | ⟨a, t⟩
  · rfl
  · rw [List.getLast?_cons_cons]
    rcases hg : (a :: t).getLast? with _ | z
    · rw [List.getLast?_eq_none_iff] at hg; cases hg
    · rfl
theorem lastEnd_gt {l : List Nd} {k : Nat} (hk : k < l.length) : (k : Int) < lastEnd l k := by
  unfold lastEnd
  rcases hg : (opnV l k k).getLast? with _ | z
  · simp; omega
  · exact (mem_opnV.1 (List.mem_of_getLast? hg)).1
theorem lastEnd_le {l : List Nd} {k : Nat} (h : upTo l k) : lastEnd l k ≤ l.length := by
  unfold lastEnd
  rcases hg : (opnV l k k).getLast? with _ | z
  · simp
  · obtain ⟨_, j, y, hj, hy, _, rfl⟩ := mem_opnV.1 (List.mem_of_getLast? hg)
    exact (h.1 j hj y hy).2.1
theorem fits_nest {l : List Nd} {k : Nat} {x : Nd} {m : NdM} (h : upTo l k) (hx : l[k]? = some x) (e1 : x.kind = m.kind) (e2 : x.size = m.size) : fitsB m (lastEnd l k - k) = true ↔ NestAt l k := by
  have hgt := lastEnd_gt (List.getElem?_eq_some_iff.1 hx).1
  rw [fitsB_iff, nestAt_iff h.1 hx, ← e1, ← e2]
  constructor
  · rintro ⟨a, b, c⟩
    refine ⟨a, ?_, c⟩
    by_cases hk : x.kind = 1
    · exact b hk
    · have := c hk; omega
  · rintro ⟨a, b, c⟩
    exact ⟨a, fun _ => b, c⟩
theorem notdoc_nest {l : List Nd} {k : Nat} (h : ¬ NestAt l k) : ¬ IsDoc l := fun hd => h (((forest_iff_nested l).1 hd.2) k)
theorem notdoc_one {l : List Nd} {k : Nat} {x : Nd} (hx : l[k]? = some x) (h : oneB x = false) : ¬ IsDoc l := fun hd => by
  rw [(oneB_iff x).2 (hd.1 x (List.mem_of_getElem? hx))] at h; cases h
theorem endOf_at {l : List Nd} {k : Nat} {x : Nd} (hx : l[k]? = some x) : endOf l k = if x.kind = 1 then [(k : Int) + x.size] else [] := by unfold endOf; rw [hx]
theorem endOf_keep {l : List Nd} {k : Nat} {x : Nd} (hx : l[k]? = some x) (h1 : 1 ≤ x.size) : (endOf l k).filter (fun e => decide ((k : Int) < e)) = endOf l k := by
  rw [endOf_at hx]
  split
  · rw [List.filter_cons_of_pos (by simp; omega)]; rfl
  · rfl
theorem ends_next {l : List Nd} {k : Nat} {x : Nd} (hx : l[k]? = some x) (h1 : 1 ≤ x.size) : endsIn l k ++ (if x.kind = 1 then [(k : Int) + x.size] else []) = endsAt l (k + 1) := by
  unfold endsIn endsAt
  rw [show ((k + 1 : Nat) : Int) - 1 = k by omega, opnV_succ, endOf_keep hx h1, endOf_at hx, List.cons_append]
theorem depN_at {l : List Nd} {k : Nat} {x : Nd} (hx : l[k]? = some x) (h1 : 1 ≤ x.size) (hk : x.kind = 1) : depN l k = (endsIn l k).length := by
  unfold depN endsIn
  rw [opnV_succ, endOf_keep hx h1, endOf_at hx, if_pos hk]
  simp
theorem endsIn_len (l : List Nd) (k : Nat) : (endsIn l k).length ≤ k + 1 := by
  have hAE : ∀ i, (AE l i).length ≤ i := by
    intro i
    induction i with
    | zero => simp [AE]
    | succ i ih =>
      rw [AE, List.length_append]
      have : (endOf l i).length ≤ 1 := by
        unfold endOf
        split
        · split <;> simp
        · simp
      omega
  unfold endsIn opnV
  have := List.length_filter_le (fun e => decide ((k : Int) < e)) (AE l k)
  have := hAE k
  simp; omega
theorem high_take {l : List Nd} {k : Nat} (h : upTo l k) : 0 ≤ sumI highN (l.take k) := sumI_pos fun x hx => by
  obtain ⟨j, hj, rfl⟩ := List.getElem_of_mem hx
  rw [List.length_take] at hj
  rw [List.getElem_take]
  exact high_pos (h.2 j _ (by omega) (List.getElem?_eq_getElem (by omega)))
theorem take_sum {l : List Nd} {k : Nat} {x : Nd} (h : upTo l k) (hx : l[k]? = some x) (hf : x.fits) (h1 : 1 ≤ x.size) (hw : x.words.length ≤ 9223372036854775807) : takeS (sumTo l k) x (endsIn l k).length = sumTo l (k + 1) := by
  obtain ⟨_, _, a3⟩ := alone_high hf hw
  have hd := depTo_pos l k
  have e : plusS (sumTo l k) (aloneS x) = ⟨depTo l k, wr (sumI piecesN (l.take (k + 1))), ((k + 1 : Nat) : Int), cut (sumI highN (l.take (k + 1)))⟩ := by
    unfold plusS
    rw [sumI_take piecesN hx, sumI_take highN hx, ← a3 _ (high_take h)]
    simp only [sumTo, aloneS]
    rw [wr_add]
    congr 1
    · omega
  unfold takeS
  rw [e]
  unfold sumTo
  rw [depTo_succ hx]
  split
  · rename_i hk
    rw [depN_at hx h1 hk]
  · rfl
theorem pieces_take (l : List Nd) (hw : ∀ x ∈ l, x.words.length ≤ 100000) : ∀ k : Nat, sumI piecesN (l.take k) ≤ 100000 * k
  | 0 => by simp [sumI]
  | k + 1 => by
    have ih := pieces_take l hw k
    rcases hx : l[k]? with _ | x
    · rw [List.take_add_one, hx]
      simp only [Option.toList_none, List.append_nil]
      omega
    · rw [sumI_take piecesN hx]
      have : piecesN x ≤ 100000 := by
        have := hw x (List.mem_of_getElem? hx)
        unfold piecesN
        split
        · omega
        · split <;> omega
      omega
theorem sum_small {l : List Nd} {k : Nat} (h : upTo l k) (hk : k ≤ 100000) : (sumTo l k).small := by
  have h3 := cut_le (sumI highN (l.take k))
  refine ⟨depTo_pos l k, wr_wr _, ⟨?_, ?_⟩, cut_pos (high_take h), ?_⟩
  · show (0 : Int) ≤ (k : Int); omega
  · show (k : Int) ≤ _; omega
  · show cut _ ≤ _
    unfold cutN at h3; exact h3
end Go.Proofs.YtdjnaejblgheoaaGreat
/- The program's function of package lines that sets a text. -/
namespace Go.Proofs.YtdjnaejblgheoaaGreat
open Go.RowKit
set_option linter.unusedVariables false
set_option linter.unusedSimpArgs false
set_option maxHeartbeats 8000000 in
set_option maxRecDepth 100000 in
theorem stext_to {l : List Fl} {ws : List Int} {sp h a b y M : Int} {v : List Ln} (hv : lnsL l ws sp h a b 0 y = v) (hn : ∀ f ∈ l, f.near) (hy : NearI y) (h0 : 0 ≤ h) (h1 : h ≤ 1099511627776) (hM : ∀ f ∈ l, f.y + f.h ≤ M) (hyM : y ≤ M) (hM2 : M ≤ 562949953421312) (ha : NearI a) (hb : NearI b) (hws : Near9 ws sp) {A A2 : Option Addr} {n c m c2 : Nat} (hm : m ≤ 1000) {w : World} (hA : Rows 7 encFl w A n l) (hW : Ints w A2 m ws) :
    Calls Tryz.prog 87 #[.slice A n c, .slice A2 m c2, .int .i64 sp, .int .i64 h, .int .i64 y, .agg #[.int .i64 a, .int .i64 b]] w (LnsOwn w v) := by
  obtain ⟨i0, hi0, hy0, hy1, hy2⟩ := info_parts set_info
  have HH := Lib.hid (show NearI h by unfold NearI farB; omega)
  have HL := Lib.hid hW.1
  have HYL := Lib.hid (show -1125899906842624 ≤ y from hy.1)
  have HLN := Lib.hid (show ∀ (i : Nat) (y1 : Int), i < ws.length → NearY y1 → ∀ W', On w W' → Calls Tryz.prog 123 #[.agg #[.int .i64 a, .int .i64 b, .slice A n c, .int .i64 y1, .int .i64 h], .slice A2 m c2, .int .i64 sp, .int .i64 (i : Int)] W' fun e w' => e = .returned (.agg #[.int .i64 (lineL l ws sp h a b i y1).from_, .int .i64 (lineL l ws sp h a b i y1).to_, .int .i64 (lineL l ws sp h a b i y1).x, .int .i64 (lineL l ws sp h a b i y1).y, .int .i64 (lineL l ws sp h a b i y1).w]) ∧ Below W'.heap.size W' w' from
    fun i y1 hi hy1 W' ho => sline_to rfl hi hn hy1 HH.out ha hb hws hm (hA.on ho) (hW.below (B := w.heap.size) ho rfl))
  have HV := Lib.hid hv
  have HMM := Lib.hid hM
  have H0 := Lib.hid h0
  have H1 := Lib.hid h1
  have HYM := Lib.hid hyM
  have HM2 := Lib.hid hM2
  clear hv hn hy h0 h1 hM hyM hM2 ha hb hws hA hW HH
  go_enter Tryz.func87, Tryz.ntmps87
  go_wp2_with fail
  generalize hW : World.alloc (World.alloc w _) _ = W
  have HI0 := Lib.hid (show Box W (w.heap.size + 1) (strp a b A n c y h) by rw [← hW]; exact box_newNl _ (strp a b A n c y h) _ _ (by simp))
  have HB0 := Lib.hid (show Below w.heap.size w W by rw [← hW]; go_grown)
  clear hW
  go_loopw [13, 15, 16] (fun o i x wr => ∃ (j m3 c1 : Nat) (A1 : Option Addr) (dn : List Ln) (y1 : Int), o = .slice A1 m3 c1 ∧ i = .int .i64 (j : Int) ∧ j ≤ m ∧ m3 ≤ j ∧ Hid (dn.length = m3) ∧ Hid (dn ++ lnsL l ws sp h a b j y1 = v) ∧ Hid (-1125899906842624 ≤ y1 ∧ y1 ≤ M + (m3 : Int) * h) ∧ Hid (wr.ownsRow (w.heap.size + 1 + 1) 122 5 (.slice A1 m3 c1) m3 (dn.flatMap encLn)) ∧ Hid (Box wr (w.heap.size + 1) (strp a b A n c y1 h)) ∧ Hid (Below w.heap.size w wr)) (fun _ i _ _ => m - (intOf i).toNat)
  case atStart => exact ⟨0, 0, 0, none, [], y, rfl, rfl, Nat.zero_le _, Nat.le_refl _, Lib.hid rfl, HV, Lib.hid ⟨HYL.out, by have := HYM.out; simp; omega⟩, Lib.hid (owns_nil _ _ _ _), HI0, HB0⟩
  case round =>
    obtain ⟨j, m3, c1, A1, dn, y1, rfl, rfl, hjm, hmj, HD, HT, HY, HO, HI, HB⟩ := hrel
    by_cases hlt : j < m
    · have hlt2 : (j : Int) < (m : Int) := by omega
      have HJ := Lib.hid (show j < ws.length by have := HL.out; omega)
      have hmm := mul_most (k := m3) (h := h) (by omega) H0.out H1.out
      have HNY := Lib.hid (show NearY y1 by have := HY.out; have := HM2.out; unfold NearY farB; omega)
      obtain ⟨x, hx⟩ : ∃ x, lineL l ws sp h a b j y1 = x := ⟨_, rfl⟩
      have hln := HLN.out j y1 HJ.out HNY.out wr HB.out
      rw [hx] at hln
      obtain ⟨t, ht, ht1, ht2⟩ := lineL_to l ws sp h a b y1 HJ.out
      rw [hx] at ht
      have HT2 := Lib.hid (show (dn ++ [x]) ++ lnsL l ws sp h a b t (x.y + h) = v by
        rw [← HT.out, lnsL_step HJ.out, hx, ht, Int.toNat_natCast, List.append_assoc]; rfl)
      have hxy : x.y = seekE l h (wordI ws j) a b y1 := by rw [← hx]; rfl
      have hge : y1 ≤ x.y := by rw [hxy]; exact seekE_ge _
      have hle : x.y ≤ M + (m3 : Int) * h := by
        rw [hxy]
        exact seekE_le (fun f hf => by have := HMM.out f hf; omega) HY.out.2
      have HXY := Lib.hid (show -1125899906842624 ≤ x.y + h ∧ x.y + h ≤ M + ((m3 + 1 : Nat) : Int) * h by rw [mul_one_up]; have := HY.out; have := H0.out; omega)
      have hw : IntKind.i64.wrap (x.y + h) = x.y + h := IntWalk.i64_in _ (by have := HY.out; have := H0.out; have := H1.out; have := HM2.out; omega)
      have HLN1 := Lib.hid hln
      have htm : t ≤ m := by have := HL.out; omega
      have htj : j < t := ht1
      obtain ⟨x0, x1, x2, x3, x4⟩ := x
      simp only at ht hw HXY HT2 HLN1
      subst ht
      clear hx hln ht1 ht2 hxy hge hle hmm
      obtain ⟨⟨p0, p1, p2, p3, p4⟩, _⟩ := strp_of HI.out
      go_wp2_with fail
      refine HLN1.out.mono ?_
      rintro e w1 ⟨rfl, hb⟩
      have HO1 := Lib.hid (owns_below HO.out hb)
      have HI1 := Lib.hid (HI.out.below hb)
      have HB1 := Lib.hid (below_then HB.out hb)
      clear hb p0 p1 p2 p3 p4 HO HI HB HLN1
      go_wp2_with ((with_reducible refine stop_dst 34 ?_ ?_); exact rfl)
      refine Stop.intro ?_
      generalize hZ : w1.alloc (.cells #[.int .i64 x0, .int .i64 (t : Int), .int .i64 x2, .int .i64 x3, .int .i64 x4] 122) = Z
      have hal : Below w1.heap.size w1 Z := by rw [← hZ]; exact (Below.refl _ _).alloc (Nat.le_refl _) _
      have HX := Lib.hid (show Box Z w1.heap.size (encLn ⟨x0, (t : Int), x2, x3, x4⟩) by rw [← hZ]; exact Box.new w1 (encLn ⟨x0, (t : Int), x2, x3, x4⟩) _)
      have HO2 := Lib.hid (owns_below (owns_below HO1.out hal) ((Below.refl Z.heap.size Z).alloc (Nat.le_refl _) (.cells #[.int .i64 x0, .int .i64 (t : Int), .int .i64 x2, .int .i64 x3, .int .i64 x4] 122)))
      have HI2 := Lib.hid (HI1.out.below hal)
      have HB2 := Lib.hid (below_then HB1.out hal)
      have HLT := Lib.hid (show ∀ r, (Value.slice A1 m3 c1).ownBlock = some r → r < w1.heap.size from owns_block_lt HO1.out)
      have hz1 := HI2.out.1
      have hzs : w1.heap.size + 1 = Z.heap.size := by rw [← hZ]; simp
      have hz1w : w.heap.size + 1 < w1.heap.size := HI1.out.1
      clear hZ hal HO1 HI1 HB1
      refine wpList_append_cells _ rfl (.tmp 31) (.tmp 33) _ rfl (w.heap.size + 1 + 1) 122 i0 (.agg #[.int .i64 0, .int .i64 0, .int .i64 0, .int .i64 0, .int .i64 0]) 5 40 Tryz.underlying119 hi0 hy0 hy1 hy2 rfl (by decide) (.slice A1 m3 c1) m3 _ rfl HO2.out _ 1 1 _ rfl (cells_ln Z 122 ⟨x0, (t : Int), x2, x3, x4⟩ (w1.heap.size + 1) hzs) (encLn_one _) (by unfold maxLen; omega) (by omega) (by simp; omega) ?_
      intro A5 c5 w5 hown5 hg5
      have hbl := owns_block HO2.out
      have HX5 := Lib.hid ((HX.out.alloc (.cells #[.int .i64 x0, .int .i64 (t : Int), .int .i64 x2, .int .i64 x3, .int .i64 x4] 122)).grown hg5 (fun r e => by have := HLT.out r e; omega))
      have HI5 := Lib.hid ((HI2.out.alloc (.cells #[.int .i64 x0, .int .i64 (t : Int), .int .i64 x2, .int .i64 x3, .int .i64 x4] 122)).grown hg5 (fun r e => by have := hbl r e; omega))
      have HB5 := Lib.hid ((HB2.out.alloc (by have := HB2.out.size; omega) (.cells #[.int .i64 x0, .int .i64 (t : Int), .int .i64 x2, .int .i64 x3, .int .i64 x4] 122)).grown hg5 (by have := HB2.out.size; simp; omega) (fun r e => by have := hbl r e; omega))
      have HO5 := Lib.hid (show w5.ownsRow (w.heap.size + 1 + 1) 122 5 (.slice A5 (m3 + 1) c5) (m3 + 1) ((dn ++ [(⟨x0, (t : Int), x2, x3, x4⟩ : Ln)]).flatMap encLn) by rw [flat_snoc]; exact hown5)
      have HD5 := Lib.hid (show (dn ++ [(⟨x0, (t : Int), x2, x3, x4⟩ : Ln)]).length = m3 + 1 by rw [List.length_append, HD.out]; rfl)
      have hlb := HI2.out.1
      have hwz := HB2.out.size
      have hx1 : w.heap.size + 1 < w1.heap.size := hz1w
      clear hown5 hg5 hbl HX HO2 HI2 HB2 HLT hz1 hzs hlb hwz
      obtain ⟨⟨k0, k1, k2, k3, k4⟩, _⟩ := HX5.out.of5l
      obtain ⟨⟨e0, e1, e2, e3, e4⟩, ef, el⟩ := strp_of HI5.out
      have f3 := ef 3
      clear ef
      have hxs : w.heap.size + 1 ≠ w1.heap.size := by omega
      go_wp2_with fail
      go_region
      have HI6 := Lib.hid (show Box (w5.setCell ⟨w.heap.size + 1, 3, none⟩ (.int .i64 (x3 + h))).drew (w.heap.size + 1) (strp a b A n c (x3 + h) h) from (HI5.out.set 3 (.int .i64 (x3 + h)) (by simp [strp])).drew)
      have HB6 := Lib.hid ((HB5.out.setCell (p := ⟨w.heap.size + 1, 3, none⟩) (by simp) (.int .i64 (x3 + h))).drew)
      have HO6 := Lib.hid (owns_below (owns_set13 HO5.out (m := w.heap.size + 1) (by omega) 3 (.int .i64 (x3 + h))) (Below.refl _ _).drew)
      go_wp2_with fail
      go_roundw
      case rel => exact ⟨t, m3 + 1, c5, A5, dn ++ [(⟨x0, (t : Int), x2, x3, x4⟩ : Ln)], x3 + h, rfl, rfl, htm, by omega, HD5, HT2, HXY, HO6, HI6, HB6⟩
      case measure => simp [intOf] <;> omega
    · have hge : (m : Int) ≤ (j : Int) := by omega
      have HE := Lib.hid (show dn = v by rw [← HT.out, lnsL_end (by have := HL.out; omega), List.append_nil])
      have HD2 := Lib.hid HD.out
      go_wp2_with fail
      go_ret
      exact ⟨A1, m3, c1, rfl, by rw [← HE.out]; exact HD.out.symm, by rw [← HE.out]; exact owns_mono13 HO.out (by omega), HB.out⟩
end Go.Proofs.YtdjnaejblgheoaaGreat
/- slices.Clone of floats. -/
namespace Go.Proofs.YtdjnaejblgheoaaGreat
open Go.RowKit
set_option linter.unusedVariables false
set_option linter.unusedSimpArgs false
set_option maxHeartbeats 2000000 in
theorem clone11_to {l : List Fl} {A : Option Addr} {n c : Nat} {w : World} (h : Rows 7 encFl w A n l) (hn : n ≤ 1000) :
    Calls Tryz.prog 127 #[.slice A n c] w fun e w' => ∃ A' c', e = .returned (.slice A' n c') ∧ w'.ownsRow w.heap.size 42 7 (.slice A' n c') n (l.flatMap encFl) ∧ Below w.heap.size w w' := by
  have HA := Lib.hid h
  have HL := Lib.hid h.1
  obtain ⟨i0, hi0, hz0, hz1, hz2⟩ := info_parts fl_info'
  cases A with
  | none =>
    have hn0 : n = 0 := by
      rcases Nat.eq_zero_or_pos n with h0 | h0
      · exact h0
      · obtain ⟨b, off, e, _⟩ := h.2.2 h0
        cases e
    subst hn0
    have hl : l = [] := List.eq_nil_of_length_eq_zero HL.out
    subst hl
    clear h
    have he : ∀ w : World, (binOp .eql 26 (.slice none 0 c) (.slice none 0 0)).run Tryz.prog w = .ok (.bool true) w := fun w => Lib.run_eql_slice_nil (P := Tryz.prog) w _ _ _ _ _ _ _ Tryz.underlying26
    go_enter Tryz.func127, Tryz.ntmps127
    go_wp2_with fail
    go_ret
    exact ⟨_, _, rfl, owns_nil _ _ _ _, Below.refl _ _⟩
  | some p =>
    clear h
    have he : ∀ w : World, (binOp .eql 26 (.slice (some p) n c) (.slice none 0 0)).run Tryz.prog w = .ok (.bool false) w := fun w => Lib.run_eql_slice_nil (P := Tryz.prog) w _ _ _ _ _ _ _ Tryz.underlying26
    go_enter Tryz.func127, Tryz.ntmps127
    go_wp2_with ((with_reducible refine stop_dst 7 ?_ ?_); exact rfl)
    refine Stop.intro ?_
    have hO : (w.alloc (.cells #[] 42)).ownsRow w.heap.size 42 7 (.slice (some ⟨w.heap.size, 0, none⟩) 0 0) 0 [] := World.ownsRow_made w #[] 0 (Nat.le_refl _) (by decide) rfl
    have hC : Cells (w.alloc (.cells #[] 42)) (some p) n 7 (l.flatMap encFl) := (HA.out.below ((Below.refl _ _).alloc (Nat.le_refl _) _)).cells encFl_len (by decide)
    refine wpList_append_cells _ rfl (.tmp 5) (.tmp 6) _ rfl w.heap.size 42 i0 (.agg #[.int .i64 0, .int .i64 0, .int .i64 0, .int .i64 0, .int .i64 0, .int .i64 0, .int .i64 0]) 7 56 Tryz.underlying26 hi0 hz0 hz1 hz2 rfl (by decide) _ 0 [] rfl hO (some p) n c _ rfl hC (fls_one' l) (by unfold maxLen; omega) (by omega) (by simp) ?_
    intro A1 c1 w2 hown1 hg1
    simp only [Nat.zero_add, List.nil_append] at hown1
    have hb1 : Below w.heap.size w w2 := ((Below.refl _ _).alloc (Nat.le_refl _) _).grown hg1 (by simp) (by intro k hk; cases hk; exact Nat.le_refl _)
    clear hg1 hO hC hi0 hz0 hz1 hz2 he
    go_wp2_with fail
    go_ret
    exact ⟨A1, c1, rfl, hown1, hb1⟩
end Go.Proofs.YtdjnaejblgheoaaGreat
/- The program's function of package place that puts a float. -/
namespace Go.Proofs.YtdjnaejblgheoaaGreat
open Go.RowKit
set_option linter.unusedVariables false
set_option linter.unusedSimpArgs false
theorem owns_mono11 {w : World} {base b2 : Nat} {e : TypeId} {size : Nat} {v : Value} {n : Nat} {xs : List Value} (h : w.ownsRow base e size v n xs) (hb : b2 ≤ base) : w.ownsRow b2 e size v n xs := by
  refine ⟨h.1, ?_⟩
  rcases h.2 with h2 | ⟨g, cap, cur, h1, h2, h3⟩
  · exact .inl h2
  · exact .inr ⟨g, cap, cur, h1, by omega, h3⟩
set_option maxHeartbeats 16000000 in
set_option maxRecDepth 100000 in
theorem put11_to {l : List Fl} {f0 f1 f2 f3 f4 f5 f6 y a b x t : Int} {A : Option Addr} {n c : Nat} {w : World} (hx : spotX l ⟨f0, f1, f2, f3, f4, f5, f6⟩ y a b = x) (ht : spotY l ⟨f0, f1, f2, f3, f4, f5, f6⟩ y a b = t) (hn : ∀ g ∈ l, g.near) (hf : (⟨f0, f1, f2, f3, f4, f5, f6⟩ : Fl).near) (hy : NearI y) (ha : NearI a) (hb : NearI b) (hn2 : n ≤ 1000) (h : Rows 7 encFl w A n l) :
    Calls Tryz.prog 91 #[.slice A n c, .agg #[.int .i64 f0, .int .i64 f1, .int .i64 f2, .int .i64 f3, .int .i64 f4, .int .i64 f5, .int .i64 f6], .int .i64 y, .agg #[.int .i64 a, .int .i64 b]] w (FlsOwn w (l ++ [⟨f0, f1, f2, x, t, f5, f6⟩])) := by
  have HL := Lib.hid h.1
  obtain ⟨i0, hi0, hz0, hz1, hz2⟩ := info_parts fl_info'
  obtain ⟨W, hW⟩ : ∃ W, (w.alloc (.cells #[.int .i64 f0, .int .i64 f1, .int .i64 f2, .int .i64 f3, .int .i64 f4, .int .i64 f5, .int .i64 f6] 42)).alloc (.cells #[.int .i64 a, .int .i64 b] 94) = W := ⟨_, rfl⟩
  have hB : Below w.heap.size w W := by rw [← hW]; go_grown
  have HB := Lib.hid hB
  have HC := Lib.hid (fun (v : World) (hv : On W v) => placed11_to (c := c) hx ht hn hf hy ha hb (h.below (below_then hB hv)))
  have HK := Lib.hid (show ∀ v : World, On W v → Calls Tryz.prog 127 #[.slice A n c] v fun e w' => ∃ A' c', e = .returned (.slice A' n c') ∧ w'.ownsRow W.heap.size 42 7 (.slice A' n c') n (l.flatMap encFl) ∧ Below v.heap.size v w' from
    fun v hv => (clone11_to (c := c) (h.below (below_then hB hv)) hn2).mono (by rintro e w2 ⟨A2, c2, rfl, ho, hb⟩; exact ⟨A2, c2, rfl, owns_mono11 ho (Below.size hv), hb⟩))
  have HD := Lib.hid (show Box W w.heap.size (encFl ⟨f0, f1, f2, f3, f4, f5, f6⟩) by rw [← hW]; exact (box7 w ⟨f0, f1, f2, f3, f4, f5, f6⟩ _).alloc _)
  have hI : Box W (w.heap.size + 1) [.int .i64 a, .int .i64 b] := by rw [← hW]; exact Box.new2' _ _ _ _ _ (by simp)
  have HW := Lib.hid hW
  obtain ⟨⟨p0, p1, p2, p3, p4, p5, p6⟩, hBl2⟩ := HD.out.of7
  simp only at p0 p1 p2 p3 p4 p5 p6
  have k0 := On.cell p0
  have k1 := On.cell p1
  have k2 := On.cell p2
  have k3 := On.cell p3
  have k4 := On.cell p4
  have k5 := On.cell p5
  have k6 := On.cell p6
  obtain ⟨j0, j1⟩ := On.of2 hI
  clear hx ht hn hf hy ha hb h hW hI p0 p1 p2 p3 p4 p5 p6 hBl2 hB
  go_enter Tryz.func91, Tryz.ntmps91
  go_wp2_with fail
  rw [HW.out]
  go_region_held3 (fun W' => On W W') (first | exact (On.refl _).drew | exact hO4 | exact On.step (by assumption) hb | exact On.alloc (by assumption) _) (first
    | (go_at_call 127; ((with_reducible refine (HK.out _ (by assumption)).mono ?_); rintro e w2 ⟨A2, c2, rfl, hown2, hb⟩; have HO2 := Lib.hid hown2; clear hown2))
    | (go_at_call 128; ((with_reducible refine (HC.out _ (by assumption)).mono ?_); rintro e w3 ⟨rfl, hb⟩; have HO3 := Lib.hid (owns_below HO2.out hb)))
    | (refine step_append_cells _ (by rfl) (.tmp 10) (.tmp 16) _ (by rfl) W.heap.size 42 i0 (.agg #[.int .i64 0, .int .i64 0, .int .i64 0, .int .i64 0, .int .i64 0, .int .i64 0, .int .i64 0]) 7 56 Tryz.underlying26 hi0 hz0 hz1 hz2 rfl (by decide) _ n _ (by rfl) (owns_below HO3.out ((Below.refl _ _).alloc (Nat.le_refl _) _)) _ 1 1 _ (by rfl) (cells7 _ ⟨f0, f1, f2, x, t, f5, f6⟩ _) (encFl_one ⟨f0, f1, f2, x, t, f5, f6⟩) (by unfold maxLen; omega) (by omega) (Below.size (by assumption)) ?_; intro A4 c4 w4 hown4 hg4; have hO4 : On W w4 := Below.grown (by assumption) hg4 (Below.size (by assumption)) (fun r e => owns_block HO3.out r e)))
  go_wp2_with fail
  go_ret
  refine ⟨A4, n + 1, c4, rfl, by rw [List.length_append, HL.out]; rfl, ?_, below_then HB.out hO4⟩
  have e : (l ++ [(⟨f0, f1, f2, x, t, f5, f6⟩ : Fl)]).flatMap encFl = l.flatMap encFl ++ encFl ⟨f0, f1, f2, x, t, f5, f6⟩ := by simp [List.flatMap_append]
  rw [e]
  exact owns_mono11 hown4 HB.out.size
end Go.Proofs.YtdjnaejblgheoaaGreat
