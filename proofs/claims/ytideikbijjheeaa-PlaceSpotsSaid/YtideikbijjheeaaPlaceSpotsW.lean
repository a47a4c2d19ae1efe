import Derived.Test.YtideikbijjheeaaPlaceLaws
import Derived.Lib.SliceRun
/- The walk of the law PlaceSpots, if package place says what it is asked. (Written by program: tools/drafts/genspots11.py.) -/
namespace Go.Proofs.Ytideikbijjheeaa
open Go.RowKit
set_option linter.unusedVariables false
set_option linter.unusedSimpArgs false
theorem step_append_cells_w {P : Program} {ops : Array Oper} {o : Oper} {a : Act} {W : World} {K : Act → World → Prop} {Q : Exit → Act → World → Prop} {E : Prop} (hgd : Region.wanted o (yielded ops a.tmps) = true) (s x : Operand) (t : TypeId)
    (ho : o.op = .call { callee := .builtin .append, args := #[s, x], argTypes := #[t, t] })
    (base : Nat) (e : TypeId) (i : TypeInfo) (z : Value) (size bytes : Nat) (ht : P.underlying t = some (.slice e)) (hi : P.info? e = some i) (hz : i.zero = some z)
    (hsize : i.size = size) (hby : i.bytes = bytes) (hzs : z.cells.size = size) (hsz : 0 < size)
    (v : Value) (n : Nat) (xs : List Value) (hs : a.eval s = v) (hown : W.ownsRow base e size v n xs)
    (A : Option Addr) (m c : Nat) (news : List Value) (hx : a.eval x = .slice A m c) (hc : Cells W A m size news) (h1 : ∀ u ∈ news, u.oneCell' = true)
    (h63 : n + m ≤ maxLen) (hbytes : (n + m) * bytes ≤ 140737488355328) (hbase : base ≤ W.heap.size)
    (h : ∀ A' c' w', w'.ownsRow base e size (.slice A' (n + m) c') (n + m) (xs ++ news) → W.grownBy w' v.ownBlock → K (a.put o.dst (.slice A' (n + m) c')) w') :
    if Region.wanted o (yielded ops a.tmps) = true then Oper.wp P o a W K Q else E := by
  obtain ⟨A', c', w', hr, h2, h3⟩ := run_append_cells (P := P) W base t o.type e i z size bytes ht hi hz hsize hby hzs hsz v n xs hown A m c news hc h1 h63 hbytes hbase
  rw [if_pos hgd]
  unfold Oper.wp execOp
  simp only [ho, resolve, invoke, builtin, Sem.run_bind, Sem.run_pure, Result.andThen_ok, List.map_toArray, List.map_cons, List.map_nil, hs, hx, hr]
  exact h _ _ _ h2 h3
theorem owns_fl (V : World) (f : Fl) {base : Nat} (hb : base ≤ V.heap.size) : (V.alloc (.cells #[.int .i64 f.node, .int .i64 f.side, .int .i64 f.anchor, .int .i64 f.x, .int .i64 f.y, .int .i64 f.w, .int .i64 f.h] 24)).ownsRow base 24 7 (.slice (some ⟨V.heap.size, 0, none⟩) 1 1) 1 (encFl f) :=
  ⟨rfl, .inr ⟨V.heap.size, 1, _, rfl, hb, World.alloc_heap_new V _, Nat.le_refl _, by decide, rfl, rfl⟩⟩
theorem ints_box3 {w : World} {g : Nat} {a b c : Int} (h : Box w g [.int .i64 a, .int .i64 b, .int .i64 c]) : Ints w (some ⟨g, 0, none⟩) 3 [a, b, c] :=
  ⟨rfl, by decide, fun _ => ⟨g, 0, rfl, h.1, fun k hk => by
    rw [Nat.zero_add]
    match k, hk with
    | 0, _ => exact h.2.2 0 _ rfl
    | 1, _ => exact h.2.2 1 _ rfl
    | 2, _ => exact h.2.2 2 _ rfl⟩⟩
/-- clear of a row of the call's own. -/
theorem run_clear_fl (w : World) {base : Nat} {A : Option Addr} {n c : Nat} {xs : List Value} (h : w.ownsRow base 24 7 (.slice A n c) n xs) (hn : 0 < n) : ∃ g vs, base ≤ g ∧ ∀ ty, (Builtin.clear_ #[22] ty #[.slice A n c]).run Try.prog w = .ok (.tuple #[]) (w.setCells g 0 vs) := by
  rcases h.2 with ⟨e, h0⟩ | ⟨g, cap, cur, e, h1, h2, h3, h4, h5, h6⟩
  · omega
  · injection e with e1 e2 e3
    subst e1 e3
    refine ⟨g, (Builtin.zeroCells (Value.cells (.agg #[.int .i64 0, .int .i64 0, .int .i64 0, .int .i64 0, .int .i64 0, .int .i64 0, .int .i64 0])) n).toList, h1, fun ty => ?_⟩
    have hlen : (Builtin.zeroCells (Value.cells (.agg #[.int .i64 0, .int .i64 0, .int .i64 0, .int .i64 0, .int .i64 0, .int .i64 0, .int .i64 0])) n).toList.length = n * 7 := by simp [Builtin.zeroCells, Value.cells]
    have hst := run_storeCells_cells (P := Try.prog) g 0 (Builtin.zeroCells (Value.cells (.agg #[.int .i64 0, .int .i64 0, .int .i64 0, .int .i64 0, .int .i64 0, .int .i64 0, .int .i64 0])) n).toList 0 w (fun j hj => by
        rw [hlen] at hj
        have : j < cur.size := by rw [h5]; omega
        simp [World.cell?, h2, this]) (fun j hj => by simp [World.frozen?, h2]) (fun v hv => by
        simp [Builtin.zeroCells, Value.cells] at hv
        obtain ⟨i, _, rfl⟩ := hv
        have hm : i % 7 < 7 := Nat.mod_lt _ (by decide)
        generalize i % 7 = m at hm
        match m, hm with
        | 0, _ => rfl
        | 1, _ => rfl
        | 2, _ => rfl
        | 3, _ => rfl
        | 4, _ => rfl
        | 5, _ => rfl
        | 6, _ => rfl)
    obtain ⟨m, rfl⟩ : ∃ m, n = m + 1 := ⟨n - 1, by omega⟩
    simp [Builtin.clear_, run_underlying Try.underlying22, Try.zeroValue24, hst]
theorem below_cells {B : Nat} {a : World} {g : Nat} (hg : B ≤ g) : ∀ (vs : List Value) (o : Nat) (w : World), Below B a w → Below B a (w.setCells g o vs)
  | [], _, _, h => h
  | v :: r, o, w, h => below_cells hg r (o + 1) _ (h.setCell (p := ⟨g, o, none⟩) hg v)
set_option maxHeartbeats 16000000 in
set_option maxRecDepth 100000 in
theorem placespots_all (H : PlaceSays) {A : Option Addr} {n c : Nat} {l : List Fl} {f0 f1 f2 f3 f4 f5 f6 y a b : Int} {w : World} (hz : Rows 7 encFl w A n l) :
    Calls Try.prog 3 #[.slice A n c, .agg #[.int .i64 f0, .int .i64 f1, .int .i64 f2, .int .i64 f3, .int .i64 f4, .int .i64 f5, .int .i64 f6], .int .i64 y, .agg #[.int .i64 a, .int .i64 b]] w fun e w' => e = .returned (.bool true) ∧ Below w.heap.size w w' := by
  have HH := Lib.hid H
  have HA := Lib.hid hz
  have HL := Lib.hid hz.1
  have hnb := hz.2.1
  obtain ⟨i0, hi0, hz0, hz1, hz2⟩ := info_parts fl_info'
  obtain ⟨W, hW⟩ : ∃ W, (w.alloc (.cells #[.int .i64 f0, .int .i64 f1, .int .i64 f2, .int .i64 f3, .int .i64 f4, .int .i64 f5, .int .i64 f6] 24)).alloc (.cells #[.int .i64 a, .int .i64 b] 26) = W := ⟨_, rfl⟩
  have HB := Lib.hid (show Below w.heap.size w W by rw [← hW]; go_grown)
  have HDF := Lib.hid (show Box W w.heap.size (encFl ⟨f0, f1, f2, f3, f4, f5, f6⟩) by rw [← hW]; exact (box7 w ⟨f0, f1, f2, f3, f4, f5, f6⟩ _).alloc _)
  have HDI := Lib.hid (show Box W (w.heap.size + 1) [.int .i64 a, .int .i64 b] by rw [← hW]; exact Box.new2' _ _ _ _ _ (by simp))
  have HWW := Lib.hid hW
  clear H hz hW
  by_cases hbig : 60 < n
  · have hbig2 : (60 : Int) < (n : Int) := by omega
    go_enter Try.func3, Try.ntmps3
    go_wp2_with fail
    rw [HWW.out]
    refine wp_region_on (by kernel_rfl) (by kernel_rfl) ?_
    repeat (go_big_quiet_step (fail))
    refine wpQuiet_nil ?_
    intro w5 hw'
    obtain ⟨⟨w6, hOn⟩, hw''⟩ := hw'
    obtain rfl : w5 = w6 := hw''
    have HB := Lib.hid (below_then HB.out hOn)
    clear hOn
    go_wp2_with fail
    refine (pawake_any HH.out _).mono ?_
    rintro e w9 ⟨rfl, hb9⟩
    have HB9 := Lib.hid (below_then HB.out hb9)
    clear hb9
    go_wp2_with fail
    go_ret
    exact ⟨rfl, HB9.out⟩
  have hbig2 : (n : Int) ≤ (60 : Int) := by omega

  have hn2 : n ≤ 1000 := by omega
  obtain ⟨v, hv⟩ : ∃ v, nearsB (⟨f0, f1, f2, f3, f4, f5, f6⟩ :: l) [y, a, b] = v := ⟨_, rfl⟩
  have HNR := Lib.hid hv
  clear hv
  have hf7 := HDF.out.of7.1
  simp only at hf7
  obtain ⟨p0, p1, p2, p3, p4, p5, p6⟩ := hf7
  have k0 := On.cell p0
  have k1 := On.cell p1
  have k2 := On.cell p2
  have k3 := On.cell p3
  have k4 := On.cell p4
  have k5 := On.cell p5
  have k6 := On.cell p6
  obtain ⟨j0, j1⟩ := On.of2 HDI.out
  have hC : ∀ V, On W V → Cells V A n 7 (l.flatMap encFl) := fun V hV => (HA.out.below (below_then HB.out hV)).cells encFl_len (by decide)
  clear p0 p1 p2 p3 p4 p5 p6
  go_enter Try.func3, Try.ntmps3
  go_wp2_with fail
  rw [HWW.out]
  refine wp_region_held_tail 16 (S := fun W' => On W W') (by kernel_rfl) (by kernel_rfl) rfl (On.refl _).drew (fun h0 => ?_)
  simp only [headOf, List.take_succ_cons, List.take_zero, List.getElem_toArray, List.getElem_cons_succ, List.getElem_cons_zero]
  refine wpAnyH_take (i := 0) (v := ?_) rfl (by kernel_rfl) (by kernel_rfl) (by kernel_rfl) (fun _ _ _ h => h) (Or.inl ⟨by rfl, ?_⟩) h0 ?_
  rotate_left
  · intro w hSw; (try dsimp only at hSw); go_simp; with_reducible rfl
  try simp only [Act.put, List.getElem_toArray, List.getElem_cons_succ, List.getElem_cons_zero, List.setIfInBounds_toArray, List.set_cons_zero, List.set_cons_succ]
  refine wpAnyH_take (i := 1) (v := ?_) rfl (by kernel_rfl) (by kernel_rfl) (by kernel_rfl) (fun _ _ _ h => h) (Or.inl ⟨by rfl, ?_⟩) h0 ?_
  rotate_left
  · intro w hSw; (try dsimp only at hSw); go_simp; with_reducible rfl
  try simp only [Act.put, List.getElem_toArray, List.getElem_cons_succ, List.getElem_cons_zero, List.setIfInBounds_toArray, List.set_cons_zero, List.set_cons_succ]
  refine wpAnyH_take (i := 2) (v := ?_) rfl (by kernel_rfl) (by kernel_rfl) (by kernel_rfl) (fun _ _ _ h => h) (Or.inl ⟨by rfl, ?_⟩) h0 ?_
  rotate_left
  · intro w hSw; (try dsimp only at hSw); go_simp; with_reducible rfl
  try simp only [Act.put, List.getElem_toArray, List.getElem_cons_succ, List.getElem_cons_zero, List.setIfInBounds_toArray, List.set_cons_zero, List.set_cons_succ]
  simp only [Int.not_lt.2 hbig2, decide_false]
  refine wpAnyH_take (i := 3) (v := ?_) rfl (by kernel_rfl) (by kernel_rfl) (by kernel_rfl) (fun _ _ _ h => h) (Or.inl ⟨by rfl, ?_⟩) h0 ?_
  rotate_left
  · intro w hSw; (try dsimp only at hSw); go_simp; with_reducible rfl
  try simp only [Act.put, List.getElem_toArray, List.getElem_cons_succ, List.getElem_cons_zero, List.setIfInBounds_toArray, List.set_cons_zero, List.set_cons_succ]
  refine wpAnyH_take (i := 4) (v := ?_) rfl (by kernel_rfl) (by kernel_rfl) (by kernel_rfl) (fun _ _ _ h => h) (Or.inl ⟨by rfl, ?_⟩) h0 ?_
  rotate_left
  · intro w hSw; (try dsimp only at hSw); go_simp; with_reducible rfl
  try simp only [Act.put, List.getElem_toArray, List.getElem_cons_succ, List.getElem_cons_zero, List.setIfInBounds_toArray, List.set_cons_zero, List.set_cons_succ]
  refine wpAnyH_take (i := 6) (v := ?_) rfl (by kernel_rfl) (by kernel_rfl) (by kernel_rfl) (fun _ _ _ h => h) (Or.inl ⟨by rfl, ?_⟩) h0 ?_
  rotate_left
  · intro w hSw; (try dsimp only at hSw); go_simp; with_reducible rfl
  try simp only [Act.put, List.getElem_toArray, List.getElem_cons_succ, List.getElem_cons_zero, List.setIfInBounds_toArray, List.set_cons_zero, List.set_cons_succ]
  refine wpAnyH_take (i := 8) (v := ?_) rfl (by kernel_rfl) (by kernel_rfl) (by kernel_rfl) (fun _ _ _ h => h) (Or.inl ⟨by rfl, ?_⟩) h0 ?_
  rotate_left
  · intro w hSw; (try dsimp only at hSw); go_simp; with_reducible rfl
  try simp only [Act.put, List.getElem_toArray, List.getElem_cons_succ, List.getElem_cons_zero, List.setIfInBounds_toArray, List.set_cons_zero, List.set_cons_succ]
  refine wpAnyH_take (i := 9) (v := ?_) rfl (by kernel_rfl) (by kernel_rfl) (by kernel_rfl) (fun _ _ _ h => h) (Or.inl ⟨by rfl, ?_⟩) h0 ?_
  rotate_left
  · intro w hSw; (try dsimp only at hSw); go_simp; with_reducible rfl
  try simp only [Act.put, List.getElem_toArray, List.getElem_cons_succ, List.getElem_cons_zero, List.setIfInBounds_toArray, List.set_cons_zero, List.set_cons_succ]
  refine wpAnyH_take (i := 10) (v := ?_) rfl (by kernel_rfl) (by kernel_rfl) (by kernel_rfl) (fun _ _ _ h => h) (Or.inl ⟨by rfl, ?_⟩) h0 ?_
  rotate_left
  · intro w hSw; (try dsimp only at hSw); go_simp; with_reducible rfl
  try simp only [Act.put, List.getElem_toArray, List.getElem_cons_succ, List.getElem_cons_zero, List.setIfInBounds_toArray, List.set_cons_zero, List.set_cons_succ]
  refine wpAnyH_take (i := 11) (v := ?_) rfl (by kernel_rfl) (by kernel_rfl) (by kernel_rfl) (fun _ _ _ h => h) (Or.inl ⟨by rfl, ?_⟩) h0 ?_
  rotate_left
  · intro w hSw; (try dsimp only at hSw); go_simp; with_reducible rfl
  try simp only [Act.put, List.getElem_toArray, List.getElem_cons_succ, List.getElem_cons_zero, List.setIfInBounds_toArray, List.set_cons_zero, List.set_cons_succ]
  refine wpAnyH_take (i := 12) (v := ?_) rfl (by kernel_rfl) (by kernel_rfl) (by kernel_rfl) (fun _ _ _ h => h) (Or.inl ⟨by rfl, ?_⟩) h0 ?_
  rotate_left
  · intro w hSw; (try dsimp only at hSw); go_simp; with_reducible rfl
  try simp only [Act.put, List.getElem_toArray, List.getElem_cons_succ, List.getElem_cons_zero, List.setIfInBounds_toArray, List.set_cons_zero, List.set_cons_succ]
  refine wpAnyH_ready (rs := [5, 13]) (by kernel_rfl) (by simp) ?_
  refine AllReadyH.cons rfl (fun K hK => ?_) (AllReadyH.cons rfl (fun K hK => ?_) AllReadyH.nil)
  · go_simp
    refine hK.out _ _ (On.alloc h0 _) (fun h1 => ?_)
    clear hK K
    try simp only [Act.put, List.getElem_toArray, List.getElem_cons_succ, List.getElem_cons_zero, List.setIfInBounds_toArray, List.set_cons_zero, List.set_cons_succ]
    have hO := owns_below (owns_fl W ⟨f0, f1, f2, f3, f4, f5, f6⟩ (Nat.le_refl W.heap.size)) (Below.refl _ _).drew
    refine wpAnyH_ready (rs := [7, 13]) (by kernel_rfl) (by simp) ?_
    refine AllReadyH.cons rfl (fun K hK => ?_) (AllReadyH.cons rfl (fun K hK => ?_) AllReadyH.nil)
    · refine step_append_cells_w (W := _) rfl (.tmp 20) (.tmp 21) _ rfl W.heap.size 24 i0 (.agg #[.int .i64 0, .int .i64 0, .int .i64 0, .int .i64 0, .int .i64 0, .int .i64 0, .int .i64 0]) 7 56 Try.underlying22 hi0 hz0 hz1 hz2 rfl (by decide) _ 1 _ rfl hO A n c _ rfl (hC _ h1) (fls_one' l) (by unfold maxLen; omega) (by omega) (Below.size h1) ?_
      intro A2 c2 w2 hown2 hg2
      have hb2 : On W w2 := Below.grown h1 hg2 (Below.size h1) (fun r e => owns_block hO r e)
      refine hK.out _ _ hb2 (fun h2 => ?_)
      clear hK K
      try simp only [Act.put, List.getElem_toArray, List.getElem_cons_succ, List.getElem_cons_zero, List.setIfInBounds_toArray, List.set_cons_zero, List.set_cons_succ]
      refine wpAnyH_ready (rs := [13]) (by kernel_rfl) (by simp) ?_
      refine AllReadyH.cons rfl (fun K hK => ?_) AllReadyH.nil
      go_simp
      refine hK.out _ _ (On.alloc h2 _) (fun h4 => ?_)
      clear hK K
      try simp only [Act.put, List.getElem_toArray, List.getElem_cons_succ, List.getElem_cons_zero, List.setIfInBounds_toArray, List.set_cons_zero, List.set_cons_succ]
      have hO4 := owns_below hown2 ((Below.refl w2.heap.size w2).alloc (Nat.le_refl _) (.cells #[.int .i64 y, .int .i64 a, .int .i64 b] 3))
      refine wpAnyH_ready (rs := [14]) (by kernel_rfl) (by simp) ?_
      refine AllReadyH.cons rfl (fun K hK => ?_) AllReadyH.nil
      go_simp
      refine (rnears_to HNR.out (ownsRow_rows (enc := encFl) (zs := (⟨f0, f1, f2, f3, f4, f5, f6⟩ : Fl) :: l) encFl_len (by decide) (by have h := hO4; exact h)) (Ints.new3 w2 3 y a b)).mono ?_
      rintro e v9 ⟨rfl, hb9⟩
      refine hK.out _ _ (On.step h4 hb9) (fun h5 => ?_)
      clear hK K
      try simp only [Act.put, List.getElem_toArray, List.getElem_cons_succ, List.getElem_cons_zero, List.setIfInBounds_toArray, List.set_cons_zero, List.set_cons_succ]
      refine wpAnyH_take (i := 15) (v := ?_) rfl (by kernel_rfl) (by kernel_rfl) (by kernel_rfl) (fun _ _ _ h => h) (Or.inl ⟨by rfl, ?_⟩) h5 ?_
      rotate_left
      · intro w hSw; (try dsimp only at hSw); go_simp; with_reducible rfl
      try simp only [Act.put, List.getElem_toArray, List.getElem_cons_succ, List.getElem_cons_zero, List.setIfInBounds_toArray, List.set_cons_zero, List.set_cons_succ]
      refine wpAnyH_done (by kernel_rfl) ?_ _
      show wpList _ _ _ _ _ _
      have HB := Lib.hid (below_then HB.out h5)
      have HDF := Lib.hid (HDF.out.below h5)
      have HDI := Lib.hid (HDI.out.below h5)
      have HI := Lib.hid (HA.out.below HB.out)
      clear k0 k1 k2 k3 k4 k5 k6 j0 j1 hC
      obtain ⟨⟨k0, k1, k2, k3, k4, k5, k6⟩, _⟩ := HDF.out.of7
      obtain ⟨j0, j1, _, _, _⟩ := HDI.out.of2
      simp only at k0 k1 k2 k3 k4 k5 k6
      cases v with
      | false =>
        go_wp2_with fail
        refine (pawake_any HH.out _).mono ?_
        rintro e w9 ⟨rfl, hb9⟩
        have HB9 := Lib.hid (below_then HB.out hb9)
        clear hb9
        go_wp2_with fail
        go_ret
        exact ⟨rfl, HB9.out⟩
      | true =>
        obtain ⟨hnl, hnm⟩ := nearsB_iff.1 HNR.out
        have HF := Lib.hid (hnl ⟨f0, f1, f2, f3, f4, f5, f6⟩ (by simp))
        have HN := Lib.hid (fun g (hg : g ∈ l) => hnl g (by simp [hg]))
        have HY := Lib.hid (hnm y (by simp))
        have Ha := Lib.hid (hnm a (by simp))
        have Hb := Lib.hid (hnm b (by simp))
        obtain ⟨x, hx⟩ : ∃ x, spotX l ⟨f0, f1, f2, f3, f4, f5, f6⟩ y a b = x := ⟨_, rfl⟩
        obtain ⟨t, ht⟩ : ∃ t, spotY l ⟨f0, f1, f2, f3, f4, f5, f6⟩ y a b = t := ⟨_, rfl⟩
        have HX := Lib.hid hx
        have HT := Lib.hid ht
        have hxx : (x != x) = false := by simp
        have htt : (t != t) = false := by simp
        clear hnl hnm hx ht
        go_wp2_with ((with_reducible refine stop_dst 35 ?_ ?_); exact rfl)
        refine Stop.intro ?_
        have hO : (v9.alloc (.cells #[] 24)).ownsRow v9.heap.size 24 7 (.slice (some ⟨v9.heap.size, 0, none⟩) 0 0) 0 [] := World.ownsRow_made v9 #[] 0 (Nat.le_refl _) (by decide) rfl
        have hCl : Cells (v9.alloc (.cells #[] 24)) A n 7 (l.flatMap encFl) := (HI.out.below ((Below.refl _ _).alloc (Nat.le_refl _) _)).cells encFl_len (by decide)
        refine wpList_append_cells _ rfl (.tmp 33) (.tmp 34) _ rfl v9.heap.size 24 i0 (.agg #[.int .i64 0, .int .i64 0, .int .i64 0, .int .i64 0, .int .i64 0, .int .i64 0, .int .i64 0]) 7 56 Try.underlying22 hi0 hz0 hz1 hz2 rfl (by decide) _ 0 [] rfl hO A n c _ rfl hCl (fls_one' l) (by unfold maxLen; omega) (by omega) (by simp) ?_
        intro A1 c1 v10 hown1 hg1
        simp only [Nat.zero_add, List.nil_append] at hown1
        have hb : Below v9.heap.size v9 v10 := ((Below.refl _ _).alloc (Nat.le_refl _) _).grown hg1 (by simp) (by intro k hk; cases hk; exact Nat.le_refl _)
        have HI1 := Lib.hid (ownsRow_rows (enc := encFl) encFl_len (by decide) hown1)
        have HI := Lib.hid (HI.out.below hb)
        have HDF := Lib.hid (HDF.out.below hb)
        have HDI := Lib.hid (HDI.out.below hb)
        have HB := Lib.hid (below_then HB.out hb)
        clear hown1 hg1 hb hO hCl k0 k1 k2 k3 k4 k5 k6 j0 j1 hi0 hz0 hz1 hz2
        obtain ⟨⟨k0, k1, k2, k3, k4, k5, k6⟩, _⟩ := HDF.out.of7
        obtain ⟨j0, j1, _, _, _⟩ := HDI.out.of2
        simp only at k0 k1 k2 k3 k4 k5 k6
        rw [Nat.zero_add]
        go_wp2_with fail
        refine (HH.out.spot HX.out HT.out HN.out HF.out HY.out Ha.out Hb.out hn2 HI1.out).mono ?_
        rintro e v11 ⟨rfl, hb⟩
        have HI1 := Lib.hid (HI1.out.below hb)
        have HI := Lib.hid (HI.out.below hb)
        have HDF := Lib.hid (HDF.out.below hb)
        have HDI := Lib.hid (HDI.out.below hb)
        have HB := Lib.hid (below_then HB.out hb)
        clear hb k0 k1 k2 k3 k4 k5 k6 j0 j1
        obtain ⟨⟨k0, k1, k2, k3, k4, k5, k6⟩, _⟩ := HDF.out.of7
        obtain ⟨j0, j1, _, _, _⟩ := HDI.out.of2
        simp only at k0 k1 k2 k3 k4 k5 k6
        go_wp2_with fail
        refine (rspot_to HX.out HT.out HN.out HF.out HY.out Ha.out Hb.out hn2 HI.out).mono ?_
        rintro e v12 ⟨rfl, hb⟩
        have HI1 := Lib.hid (HI1.out.below hb)
        have HI := Lib.hid (HI.out.below hb)
        have HDF := Lib.hid (HDF.out.below hb)
        have HDI := Lib.hid (HDI.out.below hb)
        have HB := Lib.hid (below_then HB.out hb)
        clear hb k0 k1 k2 k3 k4 k5 k6 j0 j1
        obtain ⟨⟨k0, k1, k2, k3, k4, k5, k6⟩, _⟩ := HDF.out.of7
        obtain ⟨j0, j1, _, _, _⟩ := HDI.out.of2
        simp only at k0 k1 k2 k3 k4 k5 k6
        go_wp2_with fail
        refine (HH.out.put HX.out HT.out HN.out HF.out HY.out Ha.out Hb.out hn2 HI1.out).mono ?_
        rintro e v13 ⟨A7, n7, c7, rfl, hm7, how7, hb⟩
        have HM7 := Lib.hid hm7
        have HO7 := Lib.hid how7
        have HP7 := Lib.hid hb
        have H1P := Lib.hid HI1.out
        have H2P := Lib.hid HI.out
        have HBP := Lib.hid HB.out
        clear hm7 how7
        have HI1 := Lib.hid (HI1.out.below hb)
        have HI := Lib.hid (HI.out.below hb)
        have HDF := Lib.hid (HDF.out.below hb)
        have HDI := Lib.hid (HDI.out.below hb)
        have HB := Lib.hid (below_then HB.out hb)
        clear hb k0 k1 k2 k3 k4 k5 k6 j0 j1
        obtain ⟨⟨k0, k1, k2, k3, k4, k5, k6⟩, _⟩ := HDF.out.of7
        obtain ⟨j0, j1, _, _, _⟩ := HDI.out.of2
        simp only at k0 k1 k2 k3 k4 k5 k6
        go_wp2_with fail
        refine (rput_to HX.out HT.out HN.out HF.out HY.out Ha.out Hb.out hn2 HI.out).mono ?_
        rintro e v14 ⟨A8, n8, c8, rfl, hm8, hr8, hb, _⟩
        have HR8 := Lib.hid hr8
        have HO7 := Lib.hid (owns_below HO7.out hb)
        have HP7 := Lib.hid (below_then HP7.out hb)
        clear hm8 hr8 hb k0 k1 k2 k3 k4 k5 k6 j0 j1
        go_wp2_with fail
        refine (fls_same (ownsRow_rows (enc := encFl) encFl_len (by decide) HO7.out) HR8.out).mono ?_
        rintro e v15 ⟨rfl, hb⟩
        have HO7 := Lib.hid (owns_below HO7.out hb)
        have HP7 := Lib.hid (below_then HP7.out hb)
        clear hb hxx htt
        obtain ⟨g, vs, hg, hcl⟩ := run_clear_fl v15 HO7.out (by have := HM7.out; rw [List.length_append] at this; simp at this; omega)
        have HPE := Lib.hid (below_cells hg vs 0 v15 HP7.out)
        clear hg
        go_wp2_with fail
        generalize v15.setCells g 0 vs = v16 at HPE ⊢
        clear hcl
        refine (fls_same (H1P.out.below HPE.out) (H2P.out.below HPE.out)).mono ?_
        rintro e v17 ⟨rfl, hb⟩
        have HB := Lib.hid (below_then (below_then HBP.out HPE.out) hb)
        clear hb
        go_wp2_with fail
        refine (pawake_any HH.out _).mono ?_
        rintro e w9 ⟨rfl, hb9⟩
        have HB9 := Lib.hid (below_then HB.out hb9)
        clear hb9
        go_wp2_with fail
        go_ret
        exact ⟨rfl, HB9.out⟩
    · go_simp
      refine hK.out _ _ (On.alloc h1 _) (fun h4 => ?_)
      clear hK K
      try simp only [Act.put, List.getElem_toArray, List.getElem_cons_succ, List.getElem_cons_zero, List.setIfInBounds_toArray, List.set_cons_zero, List.set_cons_succ]
      have hX : Box ((W.alloc (.cells #[.int .i64 f0, .int .i64 f1, .int .i64 f2, .int .i64 f3, .int .i64 f4, .int .i64 f5, .int .i64 f6] 24)).alloc (.cells #[.int .i64 y, .int .i64 a, .int .i64 b] 3)).drew (W.heap.size + 1) [.int .i64 y, .int .i64 a, .int .i64 b] := (show Box ((W.alloc (.cells #[.int .i64 f0, .int .i64 f1, .int .i64 f2, .int .i64 f3, .int .i64 f4, .int .i64 f5, .int .i64 f6] 24)).alloc (.cells #[.int .i64 y, .int .i64 a, .int .i64 b] 3)) (W.heap.size + 1) [.int .i64 y, .int .i64 a, .int .i64 b] by have := Box.new (W.alloc (.cells #[.int .i64 f0, .int .i64 f1, .int .i64 f2, .int .i64 f3, .int .i64 f4, .int .i64 f5, .int .i64 f6] 24)) [.int .i64 y, .int .i64 a, .int .i64 b] 3; simpa using this).drew
      have hO4 := owns_below (owns_below (owns_fl W ⟨f0, f1, f2, f3, f4, f5, f6⟩ (Nat.le_refl W.heap.size)) ((Below.refl _ _).alloc (Nat.le_refl _) (.cells #[.int .i64 y, .int .i64 a, .int .i64 b] 3))) (Below.refl _ _).drew
      refine wpAnyH_ready (rs := [7]) (by kernel_rfl) (by simp) ?_
      refine AllReadyH.cons rfl (fun K hK => ?_) AllReadyH.nil
      refine step_append_cells_w (W := _) rfl (.tmp 20) (.tmp 21) _ rfl W.heap.size 24 i0 (.agg #[.int .i64 0, .int .i64 0, .int .i64 0, .int .i64 0, .int .i64 0, .int .i64 0, .int .i64 0]) 7 56 Try.underlying22 hi0 hz0 hz1 hz2 rfl (by decide) _ 1 _ rfl hO4 A n c _ rfl (hC _ h4) (fls_one' l) (by unfold maxLen; omega) (by omega) (Below.size h4) ?_
      intro A2 c2 w2 hown2 hg2
      have hb2 : On W w2 := Below.grown h4 hg2 (Below.size h4) (fun r e => owns_block hO4 r e)
      refine hK.out _ _ hb2 (fun h2 => ?_)
      clear hK K
      try simp only [Act.put, List.getElem_toArray, List.getElem_cons_succ, List.getElem_cons_zero, List.setIfInBounds_toArray, List.set_cons_zero, List.set_cons_succ]
      have hX2 := box_grown hX hg2 (fun e => by injection e with e; simp only at e; omega)
      refine wpAnyH_ready (rs := [14]) (by kernel_rfl) (by simp) ?_
      refine AllReadyH.cons rfl (fun K hK => ?_) AllReadyH.nil
      go_simp
      refine (rnears_to HNR.out (ownsRow_rows (enc := encFl) (zs := (⟨f0, f1, f2, f3, f4, f5, f6⟩ : Fl) :: l) encFl_len (by decide) (by have h := hown2; exact h)) (ints_box3 hX2)).mono ?_
      rintro e v9 ⟨rfl, hb9⟩
      refine hK.out _ _ (On.step h2 hb9) (fun h5 => ?_)
      clear hK K
      try simp only [Act.put, List.getElem_toArray, List.getElem_cons_succ, List.getElem_cons_zero, List.setIfInBounds_toArray, List.set_cons_zero, List.set_cons_succ]
      refine wpAnyH_take (i := 15) (v := ?_) rfl (by kernel_rfl) (by kernel_rfl) (by kernel_rfl) (fun _ _ _ h => h) (Or.inl ⟨by rfl, ?_⟩) h5 ?_
      rotate_left
      · intro w hSw; (try dsimp only at hSw); go_simp; with_reducible rfl
      try simp only [Act.put, List.getElem_toArray, List.getElem_cons_succ, List.getElem_cons_zero, List.setIfInBounds_toArray, List.set_cons_zero, List.set_cons_succ]
      refine wpAnyH_done (by kernel_rfl) ?_ _
      show wpList _ _ _ _ _ _
      have HB := Lib.hid (below_then HB.out h5)
      have HDF := Lib.hid (HDF.out.below h5)
      have HDI := Lib.hid (HDI.out.below h5)
      have HI := Lib.hid (HA.out.below HB.out)
      clear k0 k1 k2 k3 k4 k5 k6 j0 j1 hC
      obtain ⟨⟨k0, k1, k2, k3, k4, k5, k6⟩, _⟩ := HDF.out.of7
      obtain ⟨j0, j1, _, _, _⟩ := HDI.out.of2
      simp only at k0 k1 k2 k3 k4 k5 k6
      cases v with
      | false =>
        go_wp2_with fail
        refine (pawake_any HH.out _).mono ?_
        rintro e w9 ⟨rfl, hb9⟩
        have HB9 := Lib.hid (below_then HB.out hb9)
        clear hb9
        go_wp2_with fail
        go_ret
        exact ⟨rfl, HB9.out⟩
      | true =>
        obtain ⟨hnl, hnm⟩ := nearsB_iff.1 HNR.out
        have HF := Lib.hid (hnl ⟨f0, f1, f2, f3, f4, f5, f6⟩ (by simp))
        have HN := Lib.hid (fun g (hg : g ∈ l) => hnl g (by simp [hg]))
        have HY := Lib.hid (hnm y (by simp))
        have Ha := Lib.hid (hnm a (by simp))
        have Hb := Lib.hid (hnm b (by simp))
        obtain ⟨x, hx⟩ : ∃ x, spotX l ⟨f0, f1, f2, f3, f4, f5, f6⟩ y a b = x := ⟨_, rfl⟩
        obtain ⟨t, ht⟩ : ∃ t, spotY l ⟨f0, f1, f2, f3, f4, f5, f6⟩ y a b = t := ⟨_, rfl⟩
        have HX := Lib.hid hx
        have HT := Lib.hid ht
        have hxx : (x != x) = false := by simp
        have htt : (t != t) = false := by simp
        clear hnl hnm hx ht
        go_wp2_with ((with_reducible refine stop_dst 35 ?_ ?_); exact rfl)
        refine Stop.intro ?_
        have hO : (v9.alloc (.cells #[] 24)).ownsRow v9.heap.size 24 7 (.slice (some ⟨v9.heap.size, 0, none⟩) 0 0) 0 [] := World.ownsRow_made v9 #[] 0 (Nat.le_refl _) (by decide) rfl
        have hCl : Cells (v9.alloc (.cells #[] 24)) A n 7 (l.flatMap encFl) := (HI.out.below ((Below.refl _ _).alloc (Nat.le_refl _) _)).cells encFl_len (by decide)
        refine wpList_append_cells _ rfl (.tmp 33) (.tmp 34) _ rfl v9.heap.size 24 i0 (.agg #[.int .i64 0, .int .i64 0, .int .i64 0, .int .i64 0, .int .i64 0, .int .i64 0, .int .i64 0]) 7 56 Try.underlying22 hi0 hz0 hz1 hz2 rfl (by decide) _ 0 [] rfl hO A n c _ rfl hCl (fls_one' l) (by unfold maxLen; omega) (by omega) (by simp) ?_
        intro A1 c1 v10 hown1 hg1
        simp only [Nat.zero_add, List.nil_append] at hown1
        have hb : Below v9.heap.size v9 v10 := ((Below.refl _ _).alloc (Nat.le_refl _) _).grown hg1 (by simp) (by intro k hk; cases hk; exact Nat.le_refl _)
        have HI1 := Lib.hid (ownsRow_rows (enc := encFl) encFl_len (by decide) hown1)
        have HI := Lib.hid (HI.out.below hb)
        have HDF := Lib.hid (HDF.out.below hb)
        have HDI := Lib.hid (HDI.out.below hb)
        have HB := Lib.hid (below_then HB.out hb)
        clear hown1 hg1 hb hO hCl k0 k1 k2 k3 k4 k5 k6 j0 j1 hi0 hz0 hz1 hz2
        obtain ⟨⟨k0, k1, k2, k3, k4, k5, k6⟩, _⟩ := HDF.out.of7
        obtain ⟨j0, j1, _, _, _⟩ := HDI.out.of2
        simp only at k0 k1 k2 k3 k4 k5 k6
        rw [Nat.zero_add]
        go_wp2_with fail
        refine (HH.out.spot HX.out HT.out HN.out HF.out HY.out Ha.out Hb.out hn2 HI1.out).mono ?_
        rintro e v11 ⟨rfl, hb⟩
        have HI1 := Lib.hid (HI1.out.below hb)
        have HI := Lib.hid (HI.out.below hb)
        have HDF := Lib.hid (HDF.out.below hb)
        have HDI := Lib.hid (HDI.out.below hb)
        have HB := Lib.hid (below_then HB.out hb)
        clear hb k0 k1 k2 k3 k4 k5 k6 j0 j1
        obtain ⟨⟨k0, k1, k2, k3, k4, k5, k6⟩, _⟩ := HDF.out.of7
        obtain ⟨j0, j1, _, _, _⟩ := HDI.out.of2
        simp only at k0 k1 k2 k3 k4 k5 k6
        go_wp2_with fail
        refine (rspot_to HX.out HT.out HN.out HF.out HY.out Ha.out Hb.out hn2 HI.out).mono ?_
        rintro e v12 ⟨rfl, hb⟩
        have HI1 := Lib.hid (HI1.out.below hb)
        have HI := Lib.hid (HI.out.below hb)
        have HDF := Lib.hid (HDF.out.below hb)
        have HDI := Lib.hid (HDI.out.below hb)
        have HB := Lib.hid (below_then HB.out hb)
        clear hb k0 k1 k2 k3 k4 k5 k6 j0 j1
        obtain ⟨⟨k0, k1, k2, k3, k4, k5, k6⟩, _⟩ := HDF.out.of7
        obtain ⟨j0, j1, _, _, _⟩ := HDI.out.of2
        simp only at k0 k1 k2 k3 k4 k5 k6
        go_wp2_with fail
        refine (HH.out.put HX.out HT.out HN.out HF.out HY.out Ha.out Hb.out hn2 HI1.out).mono ?_
        rintro e v13 ⟨A7, n7, c7, rfl, hm7, how7, hb⟩
        have HM7 := Lib.hid hm7
        have HO7 := Lib.hid how7
        have HP7 := Lib.hid hb
        have H1P := Lib.hid HI1.out
        have H2P := Lib.hid HI.out
        have HBP := Lib.hid HB.out
        clear hm7 how7
        have HI1 := Lib.hid (HI1.out.below hb)
        have HI := Lib.hid (HI.out.below hb)
        have HDF := Lib.hid (HDF.out.below hb)
        have HDI := Lib.hid (HDI.out.below hb)
        have HB := Lib.hid (below_then HB.out hb)
        clear hb k0 k1 k2 k3 k4 k5 k6 j0 j1
        obtain ⟨⟨k0, k1, k2, k3, k4, k5, k6⟩, _⟩ := HDF.out.of7
        obtain ⟨j0, j1, _, _, _⟩ := HDI.out.of2
        simp only at k0 k1 k2 k3 k4 k5 k6
        go_wp2_with fail
        refine (rput_to HX.out HT.out HN.out HF.out HY.out Ha.out Hb.out hn2 HI.out).mono ?_
        rintro e v14 ⟨A8, n8, c8, rfl, hm8, hr8, hb, _⟩
        have HR8 := Lib.hid hr8
        have HO7 := Lib.hid (owns_below HO7.out hb)
        have HP7 := Lib.hid (below_then HP7.out hb)
        clear hm8 hr8 hb k0 k1 k2 k3 k4 k5 k6 j0 j1
        go_wp2_with fail
        refine (fls_same (ownsRow_rows (enc := encFl) encFl_len (by decide) HO7.out) HR8.out).mono ?_
        rintro e v15 ⟨rfl, hb⟩
        have HO7 := Lib.hid (owns_below HO7.out hb)
        have HP7 := Lib.hid (below_then HP7.out hb)
        clear hb hxx htt
        obtain ⟨g, vs, hg, hcl⟩ := run_clear_fl v15 HO7.out (by have := HM7.out; rw [List.length_append] at this; simp at this; omega)
        have HPE := Lib.hid (below_cells hg vs 0 v15 HP7.out)
        clear hg
        go_wp2_with fail
        generalize v15.setCells g 0 vs = v16 at HPE ⊢
        clear hcl
        refine (fls_same (H1P.out.below HPE.out) (H2P.out.below HPE.out)).mono ?_
        rintro e v17 ⟨rfl, hb⟩
        have HB := Lib.hid (below_then (below_then HBP.out HPE.out) hb)
        clear hb
        go_wp2_with fail
        refine (pawake_any HH.out _).mono ?_
        rintro e w9 ⟨rfl, hb9⟩
        have HB9 := Lib.hid (below_then HB.out hb9)
        clear hb9
        go_wp2_with fail
        go_ret
        exact ⟨rfl, HB9.out⟩
  · go_simp
    refine hK.out _ _ (On.alloc h0 _) (fun h4 => ?_)
    clear hK K
    try simp only [Act.put, List.getElem_toArray, List.getElem_cons_succ, List.getElem_cons_zero, List.setIfInBounds_toArray, List.set_cons_zero, List.set_cons_succ]
    refine wpAnyH_ready (rs := [5]) (by kernel_rfl) (by simp) ?_
    refine AllReadyH.cons rfl (fun K hK => ?_) AllReadyH.nil
    go_simp
    refine hK.out _ _ (On.alloc h4 _) (fun h1 => ?_)
    clear hK K
    try simp only [Act.put, List.getElem_toArray, List.getElem_cons_succ, List.getElem_cons_zero, List.setIfInBounds_toArray, List.set_cons_zero, List.set_cons_succ]
    have hX : Box ((W.alloc (.cells #[.int .i64 y, .int .i64 a, .int .i64 b] 3)).alloc (.cells #[.int .i64 f0, .int .i64 f1, .int .i64 f2, .int .i64 f3, .int .i64 f4, .int .i64 f5, .int .i64 f6] 24)).drew W.heap.size [.int .i64 y, .int .i64 a, .int .i64 b] := ((Box.new W [.int .i64 y, .int .i64 a, .int .i64 b] 3).alloc _).drew
    have hO4 : ((W.alloc (.cells #[.int .i64 y, .int .i64 a, .int .i64 b] 3)).alloc (.cells #[.int .i64 f0, .int .i64 f1, .int .i64 f2, .int .i64 f3, .int .i64 f4, .int .i64 f5, .int .i64 f6] 24)).drew.ownsRow W.heap.size 24 7 (.slice (some ⟨W.heap.size + 1, 0, none⟩) 1 1) 1 (encFl ⟨f0, f1, f2, f3, f4, f5, f6⟩) := owns_below (show ((W.alloc (.cells #[.int .i64 y, .int .i64 a, .int .i64 b] 3)).alloc (.cells #[.int .i64 f0, .int .i64 f1, .int .i64 f2, .int .i64 f3, .int .i64 f4, .int .i64 f5, .int .i64 f6] 24)).ownsRow W.heap.size 24 7 (.slice (some ⟨W.heap.size + 1, 0, none⟩) 1 1) 1 (encFl ⟨f0, f1, f2, f3, f4, f5, f6⟩) by have := owns_fl (W.alloc (.cells #[.int .i64 y, .int .i64 a, .int .i64 b] 3)) ⟨f0, f1, f2, f3, f4, f5, f6⟩ (show W.heap.size ≤ (W.alloc (.cells #[.int .i64 y, .int .i64 a, .int .i64 b] 3)).heap.size by simp); simpa using this) (Below.refl _ _).drew
    refine wpAnyH_ready (rs := [7]) (by kernel_rfl) (by simp) ?_
    refine AllReadyH.cons rfl (fun K hK => ?_) AllReadyH.nil
    refine step_append_cells_w (W := _) rfl (.tmp 20) (.tmp 21) _ rfl W.heap.size 24 i0 (.agg #[.int .i64 0, .int .i64 0, .int .i64 0, .int .i64 0, .int .i64 0, .int .i64 0, .int .i64 0]) 7 56 Try.underlying22 hi0 hz0 hz1 hz2 rfl (by decide) _ 1 _ rfl hO4 A n c _ rfl (hC _ h1) (fls_one' l) (by unfold maxLen; omega) (by omega) (Below.size h1) ?_
    intro A2 c2 w2 hown2 hg2
    have hb2 : On W w2 := Below.grown h1 hg2 (Below.size h1) (fun r e => owns_block hO4 r e)
    refine hK.out _ _ hb2 (fun h2 => ?_)
    clear hK K
    try simp only [Act.put, List.getElem_toArray, List.getElem_cons_succ, List.getElem_cons_zero, List.setIfInBounds_toArray, List.set_cons_zero, List.set_cons_succ]
    have hX2 := box_grown hX hg2 (fun e => by injection e with e; simp only at e; omega)
    refine wpAnyH_ready (rs := [14]) (by kernel_rfl) (by simp) ?_
    refine AllReadyH.cons rfl (fun K hK => ?_) AllReadyH.nil
    go_simp
    refine (rnears_to HNR.out (ownsRow_rows (enc := encFl) (zs := (⟨f0, f1, f2, f3, f4, f5, f6⟩ : Fl) :: l) encFl_len (by decide) (by have h := hown2; exact h)) (ints_box3 hX2)).mono ?_
    rintro e v9 ⟨rfl, hb9⟩
    refine hK.out _ _ (On.step h2 hb9) (fun h5 => ?_)
    clear hK K
    try simp only [Act.put, List.getElem_toArray, List.getElem_cons_succ, List.getElem_cons_zero, List.setIfInBounds_toArray, List.set_cons_zero, List.set_cons_succ]
    refine wpAnyH_take (i := 15) (v := ?_) rfl (by kernel_rfl) (by kernel_rfl) (by kernel_rfl) (fun _ _ _ h => h) (Or.inl ⟨by rfl, ?_⟩) h5 ?_
    rotate_left
    · intro w hSw; (try dsimp only at hSw); go_simp; with_reducible rfl
    try simp only [Act.put, List.getElem_toArray, List.getElem_cons_succ, List.getElem_cons_zero, List.setIfInBounds_toArray, List.set_cons_zero, List.set_cons_succ]
    refine wpAnyH_done (by kernel_rfl) ?_ _
    show wpList _ _ _ _ _ _
    have HB := Lib.hid (below_then HB.out h5)
    have HDF := Lib.hid (HDF.out.below h5)
    have HDI := Lib.hid (HDI.out.below h5)
    have HI := Lib.hid (HA.out.below HB.out)
    clear k0 k1 k2 k3 k4 k5 k6 j0 j1 hC
    obtain ⟨⟨k0, k1, k2, k3, k4, k5, k6⟩, _⟩ := HDF.out.of7
    obtain ⟨j0, j1, _, _, _⟩ := HDI.out.of2
    simp only at k0 k1 k2 k3 k4 k5 k6
    cases v with
    | false =>
      go_wp2_with fail
      refine (pawake_any HH.out _).mono ?_
      rintro e w9 ⟨rfl, hb9⟩
      have HB9 := Lib.hid (below_then HB.out hb9)
      clear hb9
      go_wp2_with fail
      go_ret
      exact ⟨rfl, HB9.out⟩
    | true =>
      obtain ⟨hnl, hnm⟩ := nearsB_iff.1 HNR.out
      have HF := Lib.hid (hnl ⟨f0, f1, f2, f3, f4, f5, f6⟩ (by simp))
      have HN := Lib.hid (fun g (hg : g ∈ l) => hnl g (by simp [hg]))
      have HY := Lib.hid (hnm y (by simp))
      have Ha := Lib.hid (hnm a (by simp))
      have Hb := Lib.hid (hnm b (by simp))
      obtain ⟨x, hx⟩ : ∃ x, spotX l ⟨f0, f1, f2, f3, f4, f5, f6⟩ y a b = x := ⟨_, rfl⟩
      obtain ⟨t, ht⟩ : ∃ t, spotY l ⟨f0, f1, f2, f3, f4, f5, f6⟩ y a b = t := ⟨_, rfl⟩
      have HX := Lib.hid hx
      have HT := Lib.hid ht
      have hxx : (x != x) = false := by simp
      have htt : (t != t) = false := by simp
      clear hnl hnm hx ht
      go_wp2_with ((with_reducible refine stop_dst 35 ?_ ?_); exact rfl)
      refine Stop.intro ?_
      have hO : (v9.alloc (.cells #[] 24)).ownsRow v9.heap.size 24 7 (.slice (some ⟨v9.heap.size, 0, none⟩) 0 0) 0 [] := World.ownsRow_made v9 #[] 0 (Nat.le_refl _) (by decide) rfl
      have hCl : Cells (v9.alloc (.cells #[] 24)) A n 7 (l.flatMap encFl) := (HI.out.below ((Below.refl _ _).alloc (Nat.le_refl _) _)).cells encFl_len (by decide)
      refine wpList_append_cells _ rfl (.tmp 33) (.tmp 34) _ rfl v9.heap.size 24 i0 (.agg #[.int .i64 0, .int .i64 0, .int .i64 0, .int .i64 0, .int .i64 0, .int .i64 0, .int .i64 0]) 7 56 Try.underlying22 hi0 hz0 hz1 hz2 rfl (by decide) _ 0 [] rfl hO A n c _ rfl hCl (fls_one' l) (by unfold maxLen; omega) (by omega) (by simp) ?_
      intro A1 c1 v10 hown1 hg1
      simp only [Nat.zero_add, List.nil_append] at hown1
      have hb : Below v9.heap.size v9 v10 := ((Below.refl _ _).alloc (Nat.le_refl _) _).grown hg1 (by simp) (by intro k hk; cases hk; exact Nat.le_refl _)
      have HI1 := Lib.hid (ownsRow_rows (enc := encFl) encFl_len (by decide) hown1)
      have HI := Lib.hid (HI.out.below hb)
      have HDF := Lib.hid (HDF.out.below hb)
      have HDI := Lib.hid (HDI.out.below hb)
      have HB := Lib.hid (below_then HB.out hb)
      clear hown1 hg1 hb hO hCl k0 k1 k2 k3 k4 k5 k6 j0 j1 hi0 hz0 hz1 hz2
      obtain ⟨⟨k0, k1, k2, k3, k4, k5, k6⟩, _⟩ := HDF.out.of7
      obtain ⟨j0, j1, _, _, _⟩ := HDI.out.of2
      simp only at k0 k1 k2 k3 k4 k5 k6
      rw [Nat.zero_add]
      go_wp2_with fail
      refine (HH.out.spot HX.out HT.out HN.out HF.out HY.out Ha.out Hb.out hn2 HI1.out).mono ?_
      rintro e v11 ⟨rfl, hb⟩
      have HI1 := Lib.hid (HI1.out.below hb)
      have HI := Lib.hid (HI.out.below hb)
      have HDF := Lib.hid (HDF.out.below hb)
      have HDI := Lib.hid (HDI.out.below hb)
      have HB := Lib.hid (below_then HB.out hb)
      clear hb k0 k1 k2 k3 k4 k5 k6 j0 j1
      obtain ⟨⟨k0, k1, k2, k3, k4, k5, k6⟩, _⟩ := HDF.out.of7
      obtain ⟨j0, j1, _, _, _⟩ := HDI.out.of2
      simp only at k0 k1 k2 k3 k4 k5 k6
      go_wp2_with fail
      refine (rspot_to HX.out HT.out HN.out HF.out HY.out Ha.out Hb.out hn2 HI.out).mono ?_
      rintro e v12 ⟨rfl, hb⟩
      have HI1 := Lib.hid (HI1.out.below hb)
      have HI := Lib.hid (HI.out.below hb)
      have HDF := Lib.hid (HDF.out.below hb)
      have HDI := Lib.hid (HDI.out.below hb)
      have HB := Lib.hid (below_then HB.out hb)
      clear hb k0 k1 k2 k3 k4 k5 k6 j0 j1
      obtain ⟨⟨k0, k1, k2, k3, k4, k5, k6⟩, _⟩ := HDF.out.of7
      obtain ⟨j0, j1, _, _, _⟩ := HDI.out.of2
      simp only at k0 k1 k2 k3 k4 k5 k6
      go_wp2_with fail
      refine (HH.out.put HX.out HT.out HN.out HF.out HY.out Ha.out Hb.out hn2 HI1.out).mono ?_
      rintro e v13 ⟨A7, n7, c7, rfl, hm7, how7, hb⟩
      have HM7 := Lib.hid hm7
      have HO7 := Lib.hid how7
      have HP7 := Lib.hid hb
      have H1P := Lib.hid HI1.out
      have H2P := Lib.hid HI.out
      have HBP := Lib.hid HB.out
      clear hm7 how7
      have HI1 := Lib.hid (HI1.out.below hb)
      have HI := Lib.hid (HI.out.below hb)
      have HDF := Lib.hid (HDF.out.below hb)
      have HDI := Lib.hid (HDI.out.below hb)
      have HB := Lib.hid (below_then HB.out hb)
      clear hb k0 k1 k2 k3 k4 k5 k6 j0 j1
      obtain ⟨⟨k0, k1, k2, k3, k4, k5, k6⟩, _⟩ := HDF.out.of7
      obtain ⟨j0, j1, _, _, _⟩ := HDI.out.of2
      simp only at k0 k1 k2 k3 k4 k5 k6
      go_wp2_with fail
      refine (rput_to HX.out HT.out HN.out HF.out HY.out Ha.out Hb.out hn2 HI.out).mono ?_
      rintro e v14 ⟨A8, n8, c8, rfl, hm8, hr8, hb, _⟩
      have HR8 := Lib.hid hr8
      have HO7 := Lib.hid (owns_below HO7.out hb)
      have HP7 := Lib.hid (below_then HP7.out hb)
      clear hm8 hr8 hb k0 k1 k2 k3 k4 k5 k6 j0 j1
      go_wp2_with fail
      refine (fls_same (ownsRow_rows (enc := encFl) encFl_len (by decide) HO7.out) HR8.out).mono ?_
      rintro e v15 ⟨rfl, hb⟩
      have HO7 := Lib.hid (owns_below HO7.out hb)
      have HP7 := Lib.hid (below_then HP7.out hb)
      clear hb hxx htt
      obtain ⟨g, vs, hg, hcl⟩ := run_clear_fl v15 HO7.out (by have := HM7.out; rw [List.length_append] at this; simp at this; omega)
      have HPE := Lib.hid (below_cells hg vs 0 v15 HP7.out)
      clear hg
      go_wp2_with fail
      generalize v15.setCells g 0 vs = v16 at HPE ⊢
      clear hcl
      refine (fls_same (H1P.out.below HPE.out) (H2P.out.below HPE.out)).mono ?_
      rintro e v17 ⟨rfl, hb⟩
      have HB := Lib.hid (below_then (below_then HBP.out HPE.out) hb)
      clear hb
      go_wp2_with fail
      refine (pawake_any HH.out _).mono ?_
      rintro e w9 ⟨rfl, hb9⟩
      have HB9 := Lib.hid (below_then HB.out hb9)
      clear hb9
      go_wp2_with fail
      go_ret
      exact ⟨rfl, HB9.out⟩
theorem placespots_walk (H : PlaceSays) (A : Option Addr) (n c : Nat) (l : List Fl) (f : Fl) (y : Int) (hy : -9223372036854775808 ≤ y ∧ y ≤ 9223372036854775807) (a : Int) (ha : -9223372036854775808 ≤ a ∧ a ≤ 9223372036854775807) (b : Int) (hb : -9223372036854775808 ≤ b ∧ b ≤ 9223372036854775807) (w : World) (hz : Rows 7 encFl w A n l) :
    Calls Try.prog 3 #[.slice A n c, .agg #[.int .i64 f.node, .int .i64 f.side, .int .i64 f.anchor, .int .i64 f.x, .int .i64 f.y, .int .i64 f.w, .int .i64 f.h], .int .i64 y, .agg #[.int .i64 a, .int .i64 b]] w fun e w' => e = .returned (.bool true) ∧ Below w.heap.size w w' := placespots_all H hz
end Go.Proofs.Ytideikbijjheeaa
