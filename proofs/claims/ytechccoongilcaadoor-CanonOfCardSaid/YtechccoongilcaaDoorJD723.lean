import Derived.Test.YtechccoongilcaaDoorJD721
import Derived.Handy
/- The program's package read: a thing is put into the row. (Written by program: tools/drafts/genput.py.) -/
namespace Go.Proofs.YtechccoongilcaaDoor
open Go.RowKit
set_option linter.unusedVariables false
set_option linter.unusedSimpArgs false
theorem node_info : (Tryd.prog.info? 50).map (fun i => (i.zero, i.size, i.bytes)) = some (some (.agg (encM ⟨0, 0, .none, 0, 0, none, 0, 0, 0, 0, 0⟩).toArray), 20, 176) := by kernel_rfl
theorem cells_new (w : World) (e : TypeId) (vs : List Value) (cs : Array Value) (hc : cs = vs.toArray) (n : Nat) (hn : n = w.heap.size) : Cells (w.alloc (.cells cs e)) (some ⟨n, 0, none⟩) 1 vs.length vs := by
  subst hn
  have hb : Box (w.alloc (.cells cs e)) w.heap.size vs := box_new w _ _ _ rfl _ hc
  refine ⟨by omega, by decide, fun _ => ⟨w.heap.size, 0, rfl, hb.1, fun j u hu => ?_⟩⟩
  rw [Nat.zero_add]
  exact hb.2.2 j u hu
theorem end_text (x y : Int) (Aw : Option Addr) (mw cw : Nat) (w : World) : Calls Tryd.prog 120 #[.agg #[.int .i64 x, .int .i64 y, .slice Aw mw cw]] w fun e w' => e = .returned (.int .i32 41) ∧ Below w.heap.size w w' := by
  go_enter Tryd.func120, Tryd.ntmps120
  go_wp2
  go_ret
  exact ⟨rfl, by go_grown⟩
theorem end_box (x y : Int) (w : World) : Calls Tryd.prog 121 #[.agg #[.int .i64 x, .int .i64 y]] w fun e w' => e = .returned (.int .i32 125) ∧ Below w.heap.size w w' := by
  go_enter Tryd.func121, Tryd.ntmps121
  go_wp2
  go_ret
  exact ⟨rfl, by go_grown⟩
theorem end_float (z x y : Int) (w : World) : Calls Tryd.prog 122 #[.agg #[.int .i64 z, .int .i64 x, .int .i64 y]] w fun e w' => e = .returned (.int .i32 62) ∧ Below w.heap.size w w' := by
  go_enter Tryd.func122, Tryd.ntmps122
  go_wp2
  go_ret
  exact ⟨rfl, by go_grown⟩
set_option maxHeartbeats 4000000 in
set_option maxRecDepth 100000 in
theorem rput_box {toks : List Tok} {size : Int} {g base : Nat} {w : World} {i j : Nat} {wr b : Bool} {s : Sty} {mp : Value} {A Ao : Option Addr} {n c mo co : Nat} {l : List Nd} {os : List Int} (x y : Int) (hv : mustS toks i wr 125 = (j, b)) (h : Rd toks size g w i wr (.slice A n c) (.slice Ao mo co) s mp) (ht : Two w base A n c Ao mo co l os) (hg : g < base) (hB : base ≤ w.heap.size) (hn : n ≤ 1000000) (hmo : mo ≤ 1000000) :
    Calls Tryd.prog 37 #[.pointer (some ⟨g, 0, none⟩), .iface 114 (.agg #[.int .i64 x, .int .i64 y])] w fun e w' => (∃ v, e = .returned v) ∧ ∃ A' c', Rd toks size g w' j b (.slice A' (n + 1) c') (.slice Ao mo co) s mp ∧ Two w' base A' (n + 1) c' Ao mo co (l ++ [(box_ 3 0 x y)]) os ∧ Keep g base w w' := by
  obtain ⟨j0, hj0, jy0, jy1, jy2⟩ := info_parts node_info
  obtain ⟨q0, hq0, hy0, hy1, hy2⟩ := info_parts int_info
  have ha := box_as_block
  simp only [encS12, Sty.none] at ha ⊢
  have HR := Lib.hid h
  have HT := Lib.hid ht
  have HK := Lib.hid (Keep.refl g base w)
  have HV := Lib.hid hv
  clear hv
  clear h ht
  go_enter Tryd.func37, Tryd.ntmps37
  go_wp2_with fail
  generalize hV : World.alloc w _ = V
  have hbV : Below w.heap.size w V := by rw [← hV]; exact (Below.refl _ _).alloc (Nat.le_refl _) _
  have hBV : base ≤ V.heap.size := Nat.le_trans hB hbV.size
  have HR := Lib.hid ((HR.out.below hbV).bar (Bar.refl g V).drew rfl)
  have HT := Lib.hid ((HT.out.below hbV).bar (Bar.refl g V).drew hg)
  have HK := Lib.hid (HK.out.trans ((Keep.of_below hbV hB).trans (Keep.of_bar (Bar.refl g V).drew hBV)))
  have hBV : base ≤ V.drew.heap.size := hBV
  clear hV hbV
  refine wp_region_held (S := fun W' => W'.cell? ⟨g, 3, none⟩ = some (.slice A n c)) (by kernel_rfl) ?_
  show wpAnyH _ _ _ _ _ _ _ _ V.drew
  have h0 := HR.out.cells.2.2.1
  generalize V.drew = U at HR HT HK hBV h0 ⊢
  refine wpAnyH_take (i := 0) (v := ?_) rfl (by kernel_rfl) (by kernel_rfl) (by kernel_rfl) (fun _ _ _ h => h) (Or.inl ⟨by rfl, ?_⟩) h0 ?_
  rotate_left
  · intro w hSw; (try dsimp only at hSw); skip; go_simp; with_reducible rfl
  try simp only [Act.put, List.setIfInBounds_toArray, List.set_cons_zero, List.set_cons_succ]
  refine wpAnyH_take (i := 1) (v := ?_) rfl (by kernel_rfl) (by kernel_rfl) (by kernel_rfl) (fun _ _ _ h => h) (Or.inl ⟨by rfl, ?_⟩) h0 ?_
  rotate_left
  · intro w hSw; (try dsimp only at hSw); skip; go_simp; with_reducible rfl
  try simp only [Act.put, List.setIfInBounds_toArray, List.set_cons_zero, List.set_cons_succ]
  refine wpAnyH_take (i := 2) (v := ?_) rfl (by kernel_rfl) (by kernel_rfl) (by kernel_rfl) (fun _ _ _ h => h) (Or.inl ⟨by rfl, ?_⟩) h0 ?_
  rotate_left
  · intro w hSw; (try dsimp only at hSw); skip; go_simp; with_reducible rfl
  try simp only [Act.put, List.setIfInBounds_toArray, List.set_cons_zero, List.set_cons_succ]
  refine wpAnyH_take (i := 3) (v := ?_) rfl (by kernel_rfl) (by kernel_rfl) (by kernel_rfl) (fun _ _ _ h => h) (Or.inl ⟨by rfl, ?_⟩) h0 ?_
  rotate_left
  · intro w hSw; (try dsimp only at hSw); skip; go_simp; with_reducible rfl
  try simp only [Act.put, List.setIfInBounds_toArray, List.set_cons_zero, List.set_cons_succ]
  refine wpAnyH_ready (rs := [4]) (by kernel_rfl) (by simp) ?_
  refine AllReadyH.cons rfl (fun K hK => ?_) AllReadyH.nil
  go_simp
  go_invoke
  go_simp
  refine (end_box x y U).mono ?_
  rintro e w2 ⟨rfl, hb2⟩
  have hr2 := HR.out.below hb2
  have ht2 := HT.out.below hb2
  have hk2 := HK.out.trans (Keep.of_below hb2 hBV)
  have hs2 := hb2.size
  refine hK.out _ _ hr2.cells.2.2.1 (fun h1 => ?_)
  clear hK K
  try simp only [Act.put, List.setIfInBounds_toArray, List.set_cons_zero, List.set_cons_succ]
  refine wpAnyH_ready (rs := [5]) (by kernel_rfl) (by simp) ?_
  refine AllReadyH.cons rfl (fun K hK => ?_) AllReadyH.nil
  go_simp
  refine (must_to HV.out hr2).mono ?_
  rintro e w3 ⟨⟨v3, rfl⟩, hb3, hs3, hr3⟩
  refine hK.out _ _ hr3.cells.2.2.1 (fun h2 => ?_)
  clear hK K
  try simp only [Act.put, List.setIfInBounds_toArray, List.set_cons_zero, List.set_cons_succ]
  refine wpAnyH_done (by kernel_rfl) ?_ _
  have HR := Lib.hid (hr3.bar (Bar.refl g w3).drew rfl)
  have HT := Lib.hid ((ht2.bar hb3 hg).bar (Bar.refl g w3).drew hg)
  have hB3 : base ≤ w3.heap.size := by omega
  have HK := Lib.hid ((hk2.trans (Keep.of_bar hb3 (by omega))).trans (Keep.of_bar (Bar.refl g w3).drew hB3))
  have hBV : base ≤ w3.drew.heap.size := hB3
  clear hr2 ht2 hk2 hb2 hr3 hb3 h0 h1 h2
  go_wp2_with fail
  refine wp_region_held_tail 11 (S := fun W' => W'.cell? ⟨g, 3, none⟩ = some (.slice A n c)) (by kernel_rfl) (by kernel_rfl) rfl HR.out.cells.2.2.1 (fun h0 => ?_)
  simp only [headOf, List.take_succ_cons, List.take_zero, List.getElem_toArray, List.getElem_cons_succ, List.getElem_cons_zero]
  generalize w3.drew = U at HR HT HK hBV h0 ⊢
  refine wpAnyH_take (i := 0) (v := ?_) rfl (by kernel_rfl) (by kernel_rfl) (by kernel_rfl) (fun _ _ _ h => h) (Or.inl ⟨by rfl, ?_⟩) h0 ?_
  rotate_left
  · intro w hSw; (try dsimp only at hSw); skip; go_simp; with_reducible rfl
  try simp only [Act.put, List.setIfInBounds_toArray, List.set_cons_zero, List.set_cons_succ]
  refine wpAnyH_take (i := 1) (v := ?_) rfl (by kernel_rfl) (by kernel_rfl) (by kernel_rfl) (fun _ _ _ h => h) (Or.inl ⟨by rfl, ?_⟩) h0 ?_
  rotate_left
  · intro w hSw; (try dsimp only at hSw); skip; go_simp; with_reducible rfl
  try simp only [Act.put, List.setIfInBounds_toArray, List.set_cons_zero, List.set_cons_succ]
  refine wpAnyH_take (i := 2) (v := ?_) rfl (by kernel_rfl) (by kernel_rfl) (by kernel_rfl) (fun _ _ _ h => h) (Or.inl ⟨by rfl, ?_⟩) h0 ?_
  rotate_left
  · intro w hSw; (try dsimp only at hSw); skip; go_simp; with_reducible rfl
  try simp only [Act.put, List.setIfInBounds_toArray, List.set_cons_zero, List.set_cons_succ]
  refine wpAnyH_take (i := 3) (v := ?_) rfl (by kernel_rfl) (by kernel_rfl) (by kernel_rfl) (fun _ _ _ h => h) (Or.inl ⟨by rfl, ?_⟩) h0 ?_
  rotate_left
  · intro w hSw; (try dsimp only at hSw); skip; go_simp; with_reducible rfl
  try simp only [Act.put, List.setIfInBounds_toArray, List.set_cons_zero, List.set_cons_succ]
  refine wpAnyH_take (i := 4) (v := ?_) rfl (by kernel_rfl) (by kernel_rfl) (by kernel_rfl) (fun _ _ _ h => h) (Or.inl ⟨by rfl, ?_⟩) h0 ?_
  rotate_left
  · intro w hSw; (try dsimp only at hSw); skip; go_simp; with_reducible rfl
  try simp only [Act.put, List.setIfInBounds_toArray, List.set_cons_zero, List.set_cons_succ]
  refine wpAnyH_take (i := 5) (v := ?_) rfl (by kernel_rfl) (by kernel_rfl) (by kernel_rfl) (fun _ _ _ h => h) (Or.inl ⟨by rfl, ?_⟩) h0 ?_
  rotate_left
  · intro w hSw; (try dsimp only at hSw); skip; go_simp; with_reducible rfl
  try simp only [Act.put, List.setIfInBounds_toArray, List.set_cons_zero, List.set_cons_succ]
  refine wpAnyH_ready (rs := [6]) (by kernel_rfl) (by simp) ?_
  refine AllReadyH.cons rfl (fun K hK => ?_) AllReadyH.nil
  go_simp
  refine (node_box x y U).mono ?_
  rintro e w4 ⟨rfl, hb4⟩
  have hr4 := HR.out.below hb4
  have ht4 := HT.out.below hb4
  have hk4 := HK.out.trans (Keep.of_below hb4 hBV)
  have hs4 := hb4.size
  refine hK.out _ _ hr4.cells.2.2.1 (fun h1 => ?_)
  clear hK K
  try simp only [Act.put, List.setIfInBounds_toArray, List.set_cons_zero, List.set_cons_succ]
  simp only [encM, Sty.none]
  refine wpAnyH_ready (rs := [7]) (by kernel_rfl) (by simp) ?_
  refine AllReadyH.cons rfl (fun K hK => ?_) AllReadyH.nil
  go_simp
  have hal : Below w4.heap.size w4 (w4.alloc (.cells (encM ⟨3, 1, .none, 0, 0, none, 0, 0, 0, x, y⟩).toArray 50)) := (Below.refl _ w4).alloc (Nat.le_refl _) _
  have hr5 := hr4.below hal
  have hC5 := cells_new w4 50 (encM ⟨3, 1, .none, 0, 0, none, 0, 0, 0, x, y⟩) _ rfl _ rfl
  obtain ⟨zs, t1, t2, t3⟩ := (ht4.below hal).row
  have t4 := (ht4.below hal).opn
  have hk5 := hk4.trans (Keep.of_below hal (by omega))
  refine hK.out _ _ hr5.cells.2.2.1 (fun h2 => ?_)
  clear hK K
  try simp only [Act.put, List.setIfInBounds_toArray, List.set_cons_zero, List.set_cons_succ]
  refine wpAnyH_ready (rs := [8]) (by kernel_rfl) (by simp) ?_
  refine AllReadyH.cons rfl (fun K hK => ?_) AllReadyH.nil
  refine step_append_cells _ rfl (.tmp 36) (.tmp 39) _ rfl base 50 j0 (.agg (encM ⟨0, 0, .none, 0, 0, none, 0, 0, 0, 0, 0⟩).toArray) 20 176 Tryd.underlying27 hj0 jy0 jy1 jy2 rfl (by decide) _ n _ rfl t1 _ 1 1 _ rfl hC5 (encM_one _) (by unfold maxLen; omega) (by omega) (by simp; omega) ?_
  intro A7 c7 w6 hown6 hg6
  have hb6 : Below base (w4.alloc (.cells (encM ⟨3, 1, .none, 0, 0, none, 0, 0, 0, x, y⟩).toArray 50)) w6 := (Below.refl _ _).grown hg6 (by simp; omega) (owns_block t1)
  have hr6 := hr5.low (hb6.mono (by omega))
  refine hK.out _ _ hr6.cells.2.2.1 (fun h3 => ?_)
  clear hK K
  try simp only [Act.put, List.setIfInBounds_toArray, List.set_cons_zero, List.set_cons_succ]
  refine wpAnyH_take (i := 9) (v := ?_) rfl (by kernel_rfl) (by kernel_rfl) (by kernel_rfl) (fun _ _ _ h => h) (Or.inl ⟨by rfl, ?_⟩) h3 ?_
  rotate_left
  · intro w hSw; (try dsimp only at hSw); skip; go_simp; with_reducible rfl
  try simp only [Act.put, List.setIfInBounds_toArray, List.set_cons_zero, List.set_cons_succ]
  refine wpAnyH_take (i := 10) (v := ?_) rfl (by kernel_rfl) (by kernel_rfl) (by kernel_rfl) (fun _ _ _ h => h) (Or.inl ⟨by rfl, ?_⟩) h3 ?_
  rotate_left
  · intro w hSw; (try dsimp only at hSw); skip; go_simp; with_reducible rfl
  try simp only [Act.put, List.setIfInBounds_toArray, List.set_cons_zero, List.set_cons_succ]
  refine wpAnyH_done (by kernel_rfl) ?_ _
  show wpList _ _ _ _ _ _
  have c3 := hr6.cells.2.2.1
  have f3 := hr6.frozen 3
  have hm : Holds base (w4.alloc (.cells (encM ⟨3, 1, .none, 0, 0, none, 0, 0, 0, x, y⟩).toArray 50)) ⟨3, 1, .none, 0, 0, none, 0, 0, 0, x, y⟩ (box_ 3 0 x y) := ⟨⟨rfl, rfl, rfl, rfl, rfl, rfl, rfl, rfl⟩, World.ownsRow_nil _ _ _ _⟩
  have HR7 := Lib.hid (hr6.set (row' := .slice A7 (n + 1) c7) 3 (.slice A7 (n + 1) c7) (fun _ => rfl))
  have HT7 := Lib.hid (Two.push t1 t2 t3 t4 hg hm (Other.none Ao mo co) hown6 hg6 (.slice A7 (n + 1) c7))
  have HK7 := Lib.hid ((hk5.trans (Keep.of_below hb6 (Nat.le_refl _))).set 3 (.slice A7 (n + 1) c7))
  clear hr4 ht4 hk4 hb4 hr5 hC5 t1 t2 t3 t4 hk5 hal hr6 hb6 hg6 hown6 h0 h1 h2 h3 HR HT HK hBV hm
  go_wp2_with fail
  go_end0
  exact ⟨⟨_, rfl⟩, A7, c7, HR7.out, HT7.out, HK7.out⟩
set_option maxHeartbeats 4000000 in
set_option maxRecDepth 100000 in
theorem rput_float {toks : List Tok} {size : Int} {g base : Nat} {w : World} {i j : Nat} {wr b : Bool} {s : Sty} {mp : Value} {A Ao : Option Addr} {n c mo co : Nat} {l : List Nd} {os : List Int} (z x y : Int) (hv : mustS toks i wr 62 = (j, b)) (h : Rd toks size g w i wr (.slice A n c) (.slice Ao mo co) s mp) (ht : Two w base A n c Ao mo co l os) (hg : g < base) (hB : base ≤ w.heap.size) (hn : n ≤ 1000000) (hmo : mo ≤ 1000000) :
    Calls Tryd.prog 37 #[.pointer (some ⟨g, 0, none⟩), .iface 116 (.agg #[.int .i64 z, .int .i64 x, .int .i64 y])] w fun e w' => (∃ v, e = .returned v) ∧ ∃ A' c', Rd toks size g w' j b (.slice A' (n + 1) c') (.slice Ao mo co) s mp ∧ Two w' base A' (n + 1) c' Ao mo co (l ++ [(box_ 4 z x y)]) os ∧ Keep g base w w' := by
  obtain ⟨j0, hj0, jy0, jy1, jy2⟩ := info_parts node_info
  obtain ⟨q0, hq0, hy0, hy1, hy2⟩ := info_parts int_info
  have ha := float_as_block
  simp only [encS12, Sty.none] at ha ⊢
  have HR := Lib.hid h
  have HT := Lib.hid ht
  have HK := Lib.hid (Keep.refl g base w)
  have HV := Lib.hid hv
  clear hv
  clear h ht
  go_enter Tryd.func37, Tryd.ntmps37
  go_wp2_with fail
  generalize hV : World.alloc w _ = V
  have hbV : Below w.heap.size w V := by rw [← hV]; exact (Below.refl _ _).alloc (Nat.le_refl _) _
  have hBV : base ≤ V.heap.size := Nat.le_trans hB hbV.size
  have HR := Lib.hid ((HR.out.below hbV).bar (Bar.refl g V).drew rfl)
  have HT := Lib.hid ((HT.out.below hbV).bar (Bar.refl g V).drew hg)
  have HK := Lib.hid (HK.out.trans ((Keep.of_below hbV hB).trans (Keep.of_bar (Bar.refl g V).drew hBV)))
  have hBV : base ≤ V.drew.heap.size := hBV
  clear hV hbV
  refine wp_region_held (S := fun W' => W'.cell? ⟨g, 3, none⟩ = some (.slice A n c)) (by kernel_rfl) ?_
  show wpAnyH _ _ _ _ _ _ _ _ V.drew
  have h0 := HR.out.cells.2.2.1
  generalize V.drew = U at HR HT HK hBV h0 ⊢
  refine wpAnyH_take (i := 0) (v := ?_) rfl (by kernel_rfl) (by kernel_rfl) (by kernel_rfl) (fun _ _ _ h => h) (Or.inl ⟨by rfl, ?_⟩) h0 ?_
  rotate_left
  · intro w hSw; (try dsimp only at hSw); skip; go_simp; with_reducible rfl
  try simp only [Act.put, List.setIfInBounds_toArray, List.set_cons_zero, List.set_cons_succ]
  refine wpAnyH_take (i := 1) (v := ?_) rfl (by kernel_rfl) (by kernel_rfl) (by kernel_rfl) (fun _ _ _ h => h) (Or.inl ⟨by rfl, ?_⟩) h0 ?_
  rotate_left
  · intro w hSw; (try dsimp only at hSw); skip; go_simp; with_reducible rfl
  try simp only [Act.put, List.setIfInBounds_toArray, List.set_cons_zero, List.set_cons_succ]
  refine wpAnyH_take (i := 2) (v := ?_) rfl (by kernel_rfl) (by kernel_rfl) (by kernel_rfl) (fun _ _ _ h => h) (Or.inl ⟨by rfl, ?_⟩) h0 ?_
  rotate_left
  · intro w hSw; (try dsimp only at hSw); skip; go_simp; with_reducible rfl
  try simp only [Act.put, List.setIfInBounds_toArray, List.set_cons_zero, List.set_cons_succ]
  refine wpAnyH_take (i := 3) (v := ?_) rfl (by kernel_rfl) (by kernel_rfl) (by kernel_rfl) (fun _ _ _ h => h) (Or.inl ⟨by rfl, ?_⟩) h0 ?_
  rotate_left
  · intro w hSw; (try dsimp only at hSw); skip; go_simp; with_reducible rfl
  try simp only [Act.put, List.setIfInBounds_toArray, List.set_cons_zero, List.set_cons_succ]
  refine wpAnyH_ready (rs := [4]) (by kernel_rfl) (by simp) ?_
  refine AllReadyH.cons rfl (fun K hK => ?_) AllReadyH.nil
  go_simp
  go_invoke
  go_simp
  refine (end_float z x y U).mono ?_
  rintro e w2 ⟨rfl, hb2⟩
  have hr2 := HR.out.below hb2
  have ht2 := HT.out.below hb2
  have hk2 := HK.out.trans (Keep.of_below hb2 hBV)
  have hs2 := hb2.size
  refine hK.out _ _ hr2.cells.2.2.1 (fun h1 => ?_)
  clear hK K
  try simp only [Act.put, List.setIfInBounds_toArray, List.set_cons_zero, List.set_cons_succ]
  refine wpAnyH_ready (rs := [5]) (by kernel_rfl) (by simp) ?_
  refine AllReadyH.cons rfl (fun K hK => ?_) AllReadyH.nil
  go_simp
  refine (must_to HV.out hr2).mono ?_
  rintro e w3 ⟨⟨v3, rfl⟩, hb3, hs3, hr3⟩
  refine hK.out _ _ hr3.cells.2.2.1 (fun h2 => ?_)
  clear hK K
  try simp only [Act.put, List.setIfInBounds_toArray, List.set_cons_zero, List.set_cons_succ]
  refine wpAnyH_done (by kernel_rfl) ?_ _
  have HR := Lib.hid (hr3.bar (Bar.refl g w3).drew rfl)
  have HT := Lib.hid ((ht2.bar hb3 hg).bar (Bar.refl g w3).drew hg)
  have hB3 : base ≤ w3.heap.size := by omega
  have HK := Lib.hid ((hk2.trans (Keep.of_bar hb3 (by omega))).trans (Keep.of_bar (Bar.refl g w3).drew hB3))
  have hBV : base ≤ w3.drew.heap.size := hB3
  clear hr2 ht2 hk2 hb2 hr3 hb3 h0 h1 h2
  go_wp2_with fail
  refine wp_region_held_tail 11 (S := fun W' => W'.cell? ⟨g, 3, none⟩ = some (.slice A n c)) (by kernel_rfl) (by kernel_rfl) rfl HR.out.cells.2.2.1 (fun h0 => ?_)
  simp only [headOf, List.take_succ_cons, List.take_zero, List.getElem_toArray, List.getElem_cons_succ, List.getElem_cons_zero]
  generalize w3.drew = U at HR HT HK hBV h0 ⊢
  refine wpAnyH_take (i := 0) (v := ?_) rfl (by kernel_rfl) (by kernel_rfl) (by kernel_rfl) (fun _ _ _ h => h) (Or.inl ⟨by rfl, ?_⟩) h0 ?_
  rotate_left
  · intro w hSw; (try dsimp only at hSw); skip; go_simp; with_reducible rfl
  try simp only [Act.put, List.setIfInBounds_toArray, List.set_cons_zero, List.set_cons_succ]
  refine wpAnyH_take (i := 1) (v := ?_) rfl (by kernel_rfl) (by kernel_rfl) (by kernel_rfl) (fun _ _ _ h => h) (Or.inl ⟨by rfl, ?_⟩) h0 ?_
  rotate_left
  · intro w hSw; (try dsimp only at hSw); skip; go_simp; with_reducible rfl
  try simp only [Act.put, List.setIfInBounds_toArray, List.set_cons_zero, List.set_cons_succ]
  refine wpAnyH_take (i := 2) (v := ?_) rfl (by kernel_rfl) (by kernel_rfl) (by kernel_rfl) (fun _ _ _ h => h) (Or.inl ⟨by rfl, ?_⟩) h0 ?_
  rotate_left
  · intro w hSw; (try dsimp only at hSw); skip; go_simp; with_reducible rfl
  try simp only [Act.put, List.setIfInBounds_toArray, List.set_cons_zero, List.set_cons_succ]
  refine wpAnyH_take (i := 3) (v := ?_) rfl (by kernel_rfl) (by kernel_rfl) (by kernel_rfl) (fun _ _ _ h => h) (Or.inl ⟨by rfl, ?_⟩) h0 ?_
  rotate_left
  · intro w hSw; (try dsimp only at hSw); skip; go_simp; with_reducible rfl
  try simp only [Act.put, List.setIfInBounds_toArray, List.set_cons_zero, List.set_cons_succ]
  refine wpAnyH_take (i := 4) (v := ?_) rfl (by kernel_rfl) (by kernel_rfl) (by kernel_rfl) (fun _ _ _ h => h) (Or.inl ⟨by rfl, ?_⟩) h0 ?_
  rotate_left
  · intro w hSw; (try dsimp only at hSw); skip; go_simp; with_reducible rfl
  try simp only [Act.put, List.setIfInBounds_toArray, List.set_cons_zero, List.set_cons_succ]
  refine wpAnyH_take (i := 5) (v := ?_) rfl (by kernel_rfl) (by kernel_rfl) (by kernel_rfl) (fun _ _ _ h => h) (Or.inl ⟨by rfl, ?_⟩) h0 ?_
  rotate_left
  · intro w hSw; (try dsimp only at hSw); skip; go_simp; with_reducible rfl
  try simp only [Act.put, List.setIfInBounds_toArray, List.set_cons_zero, List.set_cons_succ]
  refine wpAnyH_ready (rs := [6]) (by kernel_rfl) (by simp) ?_
  refine AllReadyH.cons rfl (fun K hK => ?_) AllReadyH.nil
  go_simp
  refine (node_float z x y U).mono ?_
  rintro e w4 ⟨rfl, hb4⟩
  have hr4 := HR.out.below hb4
  have ht4 := HT.out.below hb4
  have hk4 := HK.out.trans (Keep.of_below hb4 hBV)
  have hs4 := hb4.size
  refine hK.out _ _ hr4.cells.2.2.1 (fun h1 => ?_)
  clear hK K
  try simp only [Act.put, List.setIfInBounds_toArray, List.set_cons_zero, List.set_cons_succ]
  simp only [encM, Sty.none]
  refine wpAnyH_ready (rs := [7]) (by kernel_rfl) (by simp) ?_
  refine AllReadyH.cons rfl (fun K hK => ?_) AllReadyH.nil
  go_simp
  have hal : Below w4.heap.size w4 (w4.alloc (.cells (encM ⟨4, 1, .none, 0, 0, none, 0, 0, z, x, y⟩).toArray 50)) := (Below.refl _ w4).alloc (Nat.le_refl _) _
  have hr5 := hr4.below hal
  have hC5 := cells_new w4 50 (encM ⟨4, 1, .none, 0, 0, none, 0, 0, z, x, y⟩) _ rfl _ rfl
  obtain ⟨zs, t1, t2, t3⟩ := (ht4.below hal).row
  have t4 := (ht4.below hal).opn
  have hk5 := hk4.trans (Keep.of_below hal (by omega))
  refine hK.out _ _ hr5.cells.2.2.1 (fun h2 => ?_)
  clear hK K
  try simp only [Act.put, List.setIfInBounds_toArray, List.set_cons_zero, List.set_cons_succ]
  refine wpAnyH_ready (rs := [8]) (by kernel_rfl) (by simp) ?_
  refine AllReadyH.cons rfl (fun K hK => ?_) AllReadyH.nil
  refine step_append_cells _ rfl (.tmp 36) (.tmp 39) _ rfl base 50 j0 (.agg (encM ⟨0, 0, .none, 0, 0, none, 0, 0, 0, 0, 0⟩).toArray) 20 176 Tryd.underlying27 hj0 jy0 jy1 jy2 rfl (by decide) _ n _ rfl t1 _ 1 1 _ rfl hC5 (encM_one _) (by unfold maxLen; omega) (by omega) (by simp; omega) ?_
  intro A7 c7 w6 hown6 hg6
  have hb6 : Below base (w4.alloc (.cells (encM ⟨4, 1, .none, 0, 0, none, 0, 0, z, x, y⟩).toArray 50)) w6 := (Below.refl _ _).grown hg6 (by simp; omega) (owns_block t1)
  have hr6 := hr5.low (hb6.mono (by omega))
  refine hK.out _ _ hr6.cells.2.2.1 (fun h3 => ?_)
  clear hK K
  try simp only [Act.put, List.setIfInBounds_toArray, List.set_cons_zero, List.set_cons_succ]
  refine wpAnyH_take (i := 9) (v := ?_) rfl (by kernel_rfl) (by kernel_rfl) (by kernel_rfl) (fun _ _ _ h => h) (Or.inl ⟨by rfl, ?_⟩) h3 ?_
  rotate_left
  · intro w hSw; (try dsimp only at hSw); skip; go_simp; with_reducible rfl
  try simp only [Act.put, List.setIfInBounds_toArray, List.set_cons_zero, List.set_cons_succ]
  refine wpAnyH_take (i := 10) (v := ?_) rfl (by kernel_rfl) (by kernel_rfl) (by kernel_rfl) (fun _ _ _ h => h) (Or.inl ⟨by rfl, ?_⟩) h3 ?_
  rotate_left
  · intro w hSw; (try dsimp only at hSw); skip; go_simp; with_reducible rfl
  try simp only [Act.put, List.setIfInBounds_toArray, List.set_cons_zero, List.set_cons_succ]
  refine wpAnyH_done (by kernel_rfl) ?_ _
  show wpList _ _ _ _ _ _
  have c3 := hr6.cells.2.2.1
  have f3 := hr6.frozen 3
  have hm : Holds base (w4.alloc (.cells (encM ⟨4, 1, .none, 0, 0, none, 0, 0, z, x, y⟩).toArray 50)) ⟨4, 1, .none, 0, 0, none, 0, 0, z, x, y⟩ (box_ 4 z x y) := ⟨⟨rfl, rfl, rfl, rfl, rfl, rfl, rfl, rfl⟩, World.ownsRow_nil _ _ _ _⟩
  have HR7 := Lib.hid (hr6.set (row' := .slice A7 (n + 1) c7) 3 (.slice A7 (n + 1) c7) (fun _ => rfl))
  have HT7 := Lib.hid (Two.push t1 t2 t3 t4 hg hm (Other.none Ao mo co) hown6 hg6 (.slice A7 (n + 1) c7))
  have HK7 := Lib.hid ((hk5.trans (Keep.of_below hb6 (Nat.le_refl _))).set 3 (.slice A7 (n + 1) c7))
  clear hr4 ht4 hk4 hb4 hr5 hC5 t1 t2 t3 t4 hk5 hal hr6 hb6 hg6 hown6 h0 h1 h2 h3 HR HT HK hBV hm
  go_wp2_with fail
  go_end0
  exact ⟨⟨_, rfl⟩, A7, c7, HR7.out, HT7.out, HK7.out⟩
set_option maxHeartbeats 4000000 in
set_option maxRecDepth 100000 in
theorem rput_text {toks : List Tok} {size : Int} {g base : Nat} {w : World} {i j : Nat} {wr b : Bool} {s : Sty} {mp : Value} {A Ao : Option Addr} {n c mo co : Nat} {l : List Nd} {os : List Int} (x y : Int) (Aw : Option Addr) (mw cw : Nat) (ws : List Int) (hv : mustS toks i wr 41 = (j, b)) (hw : w.ownsRow base 3 1 (.slice Aw mw cw) mw (ws.map (Value.int .i64))) (hap : Other Aw mw cw Ao mo co) (h : Rd toks size g w i wr (.slice A n c) (.slice Ao mo co) s mp) (ht : Two w base A n c Ao mo co l os) (hg : g < base) (hB : base ≤ w.heap.size) (hn : n ≤ 1000000) (hmo : mo ≤ 1000000) :
    Calls Tryd.prog 37 #[.pointer (some ⟨g, 0, none⟩), .iface 111 (.agg #[.int .i64 x, .int .i64 y, .slice Aw mw cw])] w fun e w' => (∃ v, e = .returned v) ∧ ∃ A' c', Rd toks size g w' j b (.slice A' (n + 1) c') (.slice Ao mo co) s mp ∧ Two w' base A' (n + 1) c' Ao mo co (l ++ [(txt x y ws)]) os ∧ Keep g base w w' := by
  obtain ⟨j0, hj0, jy0, jy1, jy2⟩ := info_parts node_info
  obtain ⟨q0, hq0, hy0, hy1, hy2⟩ := info_parts int_info
  have ha := text_as_block
  simp only [encS12, Sty.none] at ha ⊢
  have HR := Lib.hid h
  have HT := Lib.hid ht
  have HK := Lib.hid (Keep.refl g base w)
  have HV := Lib.hid hv
  clear hv
  have HW := Lib.hid hw
  have HA := Lib.hid hap
  clear hw hap
  clear h ht
  go_enter Tryd.func37, Tryd.ntmps37
  go_wp2_with fail
  generalize hV : World.alloc w _ = V
  have hbV : Below w.heap.size w V := by rw [← hV]; exact (Below.refl _ _).alloc (Nat.le_refl _) _
  have hBV : base ≤ V.heap.size := Nat.le_trans hB hbV.size
  have HR := Lib.hid ((HR.out.below hbV).bar (Bar.refl g V).drew rfl)
  have HT := Lib.hid ((HT.out.below hbV).bar (Bar.refl g V).drew hg)
  have HK := Lib.hid (HK.out.trans ((Keep.of_below hbV hB).trans (Keep.of_bar (Bar.refl g V).drew hBV)))
  have HW := Lib.hid (owns_bar (owns_below HW.out hbV) (Bar.refl g V).drew hg)
  have hBV : base ≤ V.drew.heap.size := hBV
  clear hV hbV
  refine wp_region_held (S := fun W' => W'.cell? ⟨g, 3, none⟩ = some (.slice A n c)) (by kernel_rfl) ?_
  show wpAnyH _ _ _ _ _ _ _ _ V.drew
  have h0 := HR.out.cells.2.2.1
  generalize V.drew = U at HR HT HK hBV h0 HW ⊢
  refine wpAnyH_take (i := 0) (v := ?_) rfl (by kernel_rfl) (by kernel_rfl) (by kernel_rfl) (fun _ _ _ h => h) (Or.inl ⟨by rfl, ?_⟩) h0 ?_
  rotate_left
  · intro w hSw; (try dsimp only at hSw); skip; go_simp; with_reducible rfl
  try simp only [Act.put, List.setIfInBounds_toArray, List.set_cons_zero, List.set_cons_succ]
  refine wpAnyH_take (i := 1) (v := ?_) rfl (by kernel_rfl) (by kernel_rfl) (by kernel_rfl) (fun _ _ _ h => h) (Or.inl ⟨by rfl, ?_⟩) h0 ?_
  rotate_left
  · intro w hSw; (try dsimp only at hSw); skip; go_simp; with_reducible rfl
  try simp only [Act.put, List.setIfInBounds_toArray, List.set_cons_zero, List.set_cons_succ]
  refine wpAnyH_take (i := 2) (v := ?_) rfl (by kernel_rfl) (by kernel_rfl) (by kernel_rfl) (fun _ _ _ h => h) (Or.inl ⟨by rfl, ?_⟩) h0 ?_
  rotate_left
  · intro w hSw; (try dsimp only at hSw); skip; go_simp; with_reducible rfl
  try simp only [Act.put, List.setIfInBounds_toArray, List.set_cons_zero, List.set_cons_succ]
  refine wpAnyH_take (i := 3) (v := ?_) rfl (by kernel_rfl) (by kernel_rfl) (by kernel_rfl) (fun _ _ _ h => h) (Or.inl ⟨by rfl, ?_⟩) h0 ?_
  rotate_left
  · intro w hSw; (try dsimp only at hSw); skip; go_simp; with_reducible rfl
  try simp only [Act.put, List.setIfInBounds_toArray, List.set_cons_zero, List.set_cons_succ]
  refine wpAnyH_ready (rs := [4]) (by kernel_rfl) (by simp) ?_
  refine AllReadyH.cons rfl (fun K hK => ?_) AllReadyH.nil
  go_simp
  go_invoke
  go_simp
  refine (end_text x y Aw mw cw U).mono ?_
  rintro e w2 ⟨rfl, hb2⟩
  have hr2 := HR.out.below hb2
  have ht2 := HT.out.below hb2
  have hk2 := HK.out.trans (Keep.of_below hb2 hBV)
  have hs2 := hb2.size
  have hw2 := owns_below HW.out hb2
  refine hK.out _ _ hr2.cells.2.2.1 (fun h1 => ?_)
  clear hK K
  try simp only [Act.put, List.setIfInBounds_toArray, List.set_cons_zero, List.set_cons_succ]
  refine wpAnyH_ready (rs := [5]) (by kernel_rfl) (by simp) ?_
  refine AllReadyH.cons rfl (fun K hK => ?_) AllReadyH.nil
  go_simp
  refine (must_to HV.out hr2).mono ?_
  rintro e w3 ⟨⟨v3, rfl⟩, hb3, hs3, hr3⟩
  refine hK.out _ _ hr3.cells.2.2.1 (fun h2 => ?_)
  clear hK K
  try simp only [Act.put, List.setIfInBounds_toArray, List.set_cons_zero, List.set_cons_succ]
  refine wpAnyH_done (by kernel_rfl) ?_ _
  have HR := Lib.hid (hr3.bar (Bar.refl g w3).drew rfl)
  have HT := Lib.hid ((ht2.bar hb3 hg).bar (Bar.refl g w3).drew hg)
  have hB3 : base ≤ w3.heap.size := by omega
  have HK := Lib.hid ((hk2.trans (Keep.of_bar hb3 (by omega))).trans (Keep.of_bar (Bar.refl g w3).drew hB3))
  have hBV : base ≤ w3.drew.heap.size := hB3
  have HW := Lib.hid (owns_bar (owns_bar hw2 hb3 hg) (Bar.refl g w3).drew hg)
  clear hw2
  clear hr2 ht2 hk2 hb2 hr3 hb3 h0 h1 h2
  go_wp2_with fail
  refine wp_region_held_tail 11 (S := fun W' => W'.cell? ⟨g, 3, none⟩ = some (.slice A n c)) (by kernel_rfl) (by kernel_rfl) rfl HR.out.cells.2.2.1 (fun h0 => ?_)
  simp only [headOf, List.take_succ_cons, List.take_zero, List.getElem_toArray, List.getElem_cons_succ, List.getElem_cons_zero]
  generalize w3.drew = U at HR HT HK hBV h0 HW ⊢
  refine wpAnyH_take (i := 0) (v := ?_) rfl (by kernel_rfl) (by kernel_rfl) (by kernel_rfl) (fun _ _ _ h => h) (Or.inl ⟨by rfl, ?_⟩) h0 ?_
  rotate_left
  · intro w hSw; (try dsimp only at hSw); skip; go_simp; with_reducible rfl
  try simp only [Act.put, List.setIfInBounds_toArray, List.set_cons_zero, List.set_cons_succ]
  refine wpAnyH_take (i := 1) (v := ?_) rfl (by kernel_rfl) (by kernel_rfl) (by kernel_rfl) (fun _ _ _ h => h) (Or.inl ⟨by rfl, ?_⟩) h0 ?_
  rotate_left
  · intro w hSw; (try dsimp only at hSw); skip; go_simp; with_reducible rfl
  try simp only [Act.put, List.setIfInBounds_toArray, List.set_cons_zero, List.set_cons_succ]
  refine wpAnyH_take (i := 2) (v := ?_) rfl (by kernel_rfl) (by kernel_rfl) (by kernel_rfl) (fun _ _ _ h => h) (Or.inl ⟨by rfl, ?_⟩) h0 ?_
  rotate_left
  · intro w hSw; (try dsimp only at hSw); skip; go_simp; with_reducible rfl
  try simp only [Act.put, List.setIfInBounds_toArray, List.set_cons_zero, List.set_cons_succ]
  refine wpAnyH_take (i := 3) (v := ?_) rfl (by kernel_rfl) (by kernel_rfl) (by kernel_rfl) (fun _ _ _ h => h) (Or.inl ⟨by rfl, ?_⟩) h0 ?_
  rotate_left
  · intro w hSw; (try dsimp only at hSw); skip; go_simp; with_reducible rfl
  try simp only [Act.put, List.setIfInBounds_toArray, List.set_cons_zero, List.set_cons_succ]
  refine wpAnyH_take (i := 4) (v := ?_) rfl (by kernel_rfl) (by kernel_rfl) (by kernel_rfl) (fun _ _ _ h => h) (Or.inl ⟨by rfl, ?_⟩) h0 ?_
  rotate_left
  · intro w hSw; (try dsimp only at hSw); skip; go_simp; with_reducible rfl
  try simp only [Act.put, List.setIfInBounds_toArray, List.set_cons_zero, List.set_cons_succ]
  refine wpAnyH_take (i := 5) (v := ?_) rfl (by kernel_rfl) (by kernel_rfl) (by kernel_rfl) (fun _ _ _ h => h) (Or.inl ⟨by rfl, ?_⟩) h0 ?_
  rotate_left
  · intro w hSw; (try dsimp only at hSw); skip; go_simp; with_reducible rfl
  try simp only [Act.put, List.setIfInBounds_toArray, List.set_cons_zero, List.set_cons_succ]
  refine wpAnyH_ready (rs := [6]) (by kernel_rfl) (by simp) ?_
  refine AllReadyH.cons rfl (fun K hK => ?_) AllReadyH.nil
  go_simp
  refine (node_text x y Aw mw cw U).mono ?_
  rintro e w4 ⟨rfl, hb4⟩
  have hr4 := HR.out.below hb4
  have ht4 := HT.out.below hb4
  have hk4 := HK.out.trans (Keep.of_below hb4 hBV)
  have hs4 := hb4.size
  have hw4 := owns_below HW.out hb4
  refine hK.out _ _ hr4.cells.2.2.1 (fun h1 => ?_)
  clear hK K
  try simp only [Act.put, List.setIfInBounds_toArray, List.set_cons_zero, List.set_cons_succ]
  simp only [encM, Sty.none]
  refine wpAnyH_ready (rs := [7]) (by kernel_rfl) (by simp) ?_
  refine AllReadyH.cons rfl (fun K hK => ?_) AllReadyH.nil
  go_simp
  have hal : Below w4.heap.size w4 (w4.alloc (.cells (encM ⟨2, 1, .none, x, y, Aw, mw, cw, 0, 0, 0⟩).toArray 50)) := (Below.refl _ w4).alloc (Nat.le_refl _) _
  have hr5 := hr4.below hal
  have hC5 := cells_new w4 50 (encM ⟨2, 1, .none, x, y, Aw, mw, cw, 0, 0, 0⟩) _ rfl _ rfl
  obtain ⟨zs, t1, t2, t3⟩ := (ht4.below hal).row
  have t4 := (ht4.below hal).opn
  have hk5 := hk4.trans (Keep.of_below hal (by omega))
  have hw5 := owns_below hw4 hal
  refine hK.out _ _ hr5.cells.2.2.1 (fun h2 => ?_)
  clear hK K
  try simp only [Act.put, List.setIfInBounds_toArray, List.set_cons_zero, List.set_cons_succ]
  refine wpAnyH_ready (rs := [8]) (by kernel_rfl) (by simp) ?_
  refine AllReadyH.cons rfl (fun K hK => ?_) AllReadyH.nil
  refine step_append_cells _ rfl (.tmp 36) (.tmp 39) _ rfl base 50 j0 (.agg (encM ⟨0, 0, .none, 0, 0, none, 0, 0, 0, 0, 0⟩).toArray) 20 176 Tryd.underlying27 hj0 jy0 jy1 jy2 rfl (by decide) _ n _ rfl t1 _ 1 1 _ rfl hC5 (encM_one _) (by unfold maxLen; omega) (by omega) (by simp; omega) ?_
  intro A7 c7 w6 hown6 hg6
  have hb6 : Below base (w4.alloc (.cells (encM ⟨2, 1, .none, x, y, Aw, mw, cw, 0, 0, 0⟩).toArray 50)) w6 := (Below.refl _ _).grown hg6 (by simp; omega) (owns_block t1)
  have hr6 := hr5.low (hb6.mono (by omega))
  refine hK.out _ _ hr6.cells.2.2.1 (fun h3 => ?_)
  clear hK K
  try simp only [Act.put, List.setIfInBounds_toArray, List.set_cons_zero, List.set_cons_succ]
  refine wpAnyH_take (i := 9) (v := ?_) rfl (by kernel_rfl) (by kernel_rfl) (by kernel_rfl) (fun _ _ _ h => h) (Or.inl ⟨by rfl, ?_⟩) h3 ?_
  rotate_left
  · intro w hSw; (try dsimp only at hSw); skip; go_simp; with_reducible rfl
  try simp only [Act.put, List.setIfInBounds_toArray, List.set_cons_zero, List.set_cons_succ]
  refine wpAnyH_take (i := 10) (v := ?_) rfl (by kernel_rfl) (by kernel_rfl) (by kernel_rfl) (fun _ _ _ h => h) (Or.inl ⟨by rfl, ?_⟩) h3 ?_
  rotate_left
  · intro w hSw; (try dsimp only at hSw); skip; go_simp; with_reducible rfl
  try simp only [Act.put, List.setIfInBounds_toArray, List.set_cons_zero, List.set_cons_succ]
  refine wpAnyH_done (by kernel_rfl) ?_ _
  show wpList _ _ _ _ _ _
  have c3 := hr6.cells.2.2.1
  have f3 := hr6.frozen 3
  have hm : Holds base (w4.alloc (.cells (encM ⟨2, 1, .none, x, y, Aw, mw, cw, 0, 0, 0⟩).toArray 50)) ⟨2, 1, .none, x, y, Aw, mw, cw, 0, 0, 0⟩ (txt x y ws) := ⟨⟨rfl, rfl, rfl, rfl, rfl, rfl, rfl, rfl⟩, hw5⟩
  have HR7 := Lib.hid (hr6.set (row' := .slice A7 (n + 1) c7) 3 (.slice A7 (n + 1) c7) (fun _ => rfl))
  have HT7 := Lib.hid (Two.push t1 t2 t3 t4 hg hm HA.out hown6 hg6 (.slice A7 (n + 1) c7))
  have HK7 := Lib.hid ((hk5.trans (Keep.of_below hb6 (Nat.le_refl _))).set 3 (.slice A7 (n + 1) c7))
  clear hr4 ht4 hk4 hb4 hr5 hC5 t1 t2 t3 t4 hk5 hal hr6 hb6 hg6 hown6 h0 h1 h2 h3 HR HT HK hBV hm
  go_wp2_with fail
  go_end0
  exact ⟨⟨_, rfl⟩, A7, c7, HR7.out, HT7.out, HK7.out⟩
set_option maxHeartbeats 4000000 in
set_option maxRecDepth 100000 in
theorem rput_block {toks : List Tok} {size : Int} {g base : Nat} {w : World} {i : Nat} {wr : Bool} {s : Sty} {mp : Value} {A Ao : Option Addr} {n c mo co : Nat} {l : List Nd} {os : List Int} (s' : Sty) (h : Rd toks size g w i wr (.slice A n c) (.slice Ao mo co) s mp) (ht : Two w base A n c Ao mo co l os) (hg : g < base) (hB : base ≤ w.heap.size) (hn : n ≤ 1000000) (hmo : mo ≤ 1000000) :
    Calls Tryd.prog 37 #[.pointer (some ⟨g, 0, none⟩), .iface 81 (.agg (encS12 s').toArray)] w fun e w' => (∃ v, e = .returned v) ∧ ∃ A' c' Ao' co', Rd toks size g w' i wr (.slice A' (n + 1) c') (.slice Ao' (mo + 1) co') s mp ∧ Two w' base A' (n + 1) c' Ao' (mo + 1) co' (l ++ [(blk s' [])]) (os ++ [(n : Int)]) ∧ Keep g base w w' := by
  obtain ⟨j0, hj0, jy0, jy1, jy2⟩ := info_parts node_info
  obtain ⟨q0, hq0, hy0, hy1, hy2⟩ := info_parts int_info
  have ha := block_as_block
  simp only [encS12, Sty.none] at ha ⊢
  have HR := Lib.hid h
  have HT := Lib.hid ht
  have HK := Lib.hid (Keep.refl g base w)
  clear h ht
  go_enter Tryd.func37, Tryd.ntmps37
  go_wp2_with fail
  generalize hV : World.alloc w _ = V
  have hbV : Below w.heap.size w V := by rw [← hV]; exact (Below.refl _ _).alloc (Nat.le_refl _) _
  have hBV : base ≤ V.heap.size := Nat.le_trans hB hbV.size
  have HR := Lib.hid ((HR.out.below hbV).bar (Bar.refl g V).drew rfl)
  have HT := Lib.hid ((HT.out.below hbV).bar (Bar.refl g V).drew hg)
  have HK := Lib.hid (HK.out.trans ((Keep.of_below hbV hB).trans (Keep.of_bar (Bar.refl g V).drew hBV)))
  have hBV : base ≤ V.drew.heap.size := hBV
  clear hV hbV
  refine wp_region_held_tail 14 (S := fun W' => W'.cell? ⟨g, 3, none⟩ = some (.slice A n c) ∧ W'.cell? ⟨g, 4, none⟩ = some (.slice Ao mo co)) (by kernel_rfl) (by kernel_rfl) rfl ⟨HR.out.cells.2.2.1, HR.out.cells.2.2.2⟩ (fun h0 => ?_)
  simp only [headOf, List.take_succ_cons, List.take_zero, List.getElem_toArray, List.getElem_cons_succ, List.getElem_cons_zero]
  generalize V.drew = U at HR HT HK hBV h0 ⊢
  refine wpAnyH_take (i := 0) (v := ?_) rfl (by kernel_rfl) (by kernel_rfl) (by kernel_rfl) (fun _ _ _ h => h) (Or.inl ⟨by rfl, ?_⟩) h0 ?_
  rotate_left
  · intro w hSw; (try dsimp only at hSw); obtain ⟨s3, s4⟩ := hSw; go_simp; with_reducible rfl
  try simp only [Act.put, List.setIfInBounds_toArray, List.set_cons_zero, List.set_cons_succ]
  refine wpAnyH_take (i := 1) (v := ?_) rfl (by kernel_rfl) (by kernel_rfl) (by kernel_rfl) (fun _ _ _ h => h) (Or.inl ⟨by rfl, ?_⟩) h0 ?_
  rotate_left
  · intro w hSw; (try dsimp only at hSw); obtain ⟨s3, s4⟩ := hSw; go_simp; with_reducible rfl
  try simp only [Act.put, List.setIfInBounds_toArray, List.set_cons_zero, List.set_cons_succ]
  refine wpAnyH_take (i := 2) (v := ?_) rfl (by kernel_rfl) (by kernel_rfl) (by kernel_rfl) (fun _ _ _ h => h) (Or.inl ⟨by rfl, ?_⟩) h0 ?_
  rotate_left
  · intro w hSw; (try dsimp only at hSw); obtain ⟨s3, s4⟩ := hSw; go_simp; with_reducible rfl
  try simp only [Act.put, List.setIfInBounds_toArray, List.set_cons_zero, List.set_cons_succ]
  refine wpAnyH_take (i := 3) (v := ?_) rfl (by kernel_rfl) (by kernel_rfl) (by kernel_rfl) (fun _ _ _ h => h) (Or.inl ⟨by rfl, ?_⟩) h0 ?_
  rotate_left
  · intro w hSw; (try dsimp only at hSw); obtain ⟨s3, s4⟩ := hSw; go_simp; with_reducible rfl
  try simp only [Act.put, List.setIfInBounds_toArray, List.set_cons_zero, List.set_cons_succ]
  refine wpAnyH_take (i := 4) (v := ?_) rfl (by kernel_rfl) (by kernel_rfl) (by kernel_rfl) (fun _ _ _ h => h) (Or.inl ⟨by rfl, ?_⟩) h0 ?_
  rotate_left
  · intro w hSw; (try dsimp only at hSw); obtain ⟨s3, s4⟩ := hSw; go_simp; with_reducible rfl
  try simp only [Act.put, List.setIfInBounds_toArray, List.set_cons_zero, List.set_cons_succ]
  refine wpAnyH_take (i := 5) (v := ?_) rfl (by kernel_rfl) (by kernel_rfl) (by kernel_rfl) (fun _ _ _ h => h) (Or.inl ⟨by rfl, ?_⟩) h0 ?_
  rotate_left
  · intro w hSw; (try dsimp only at hSw); obtain ⟨s3, s4⟩ := hSw; go_simp; with_reducible rfl
  try simp only [Act.put, List.setIfInBounds_toArray, List.set_cons_zero, List.set_cons_succ]
  refine wpAnyH_take (i := 6) (v := ?_) rfl (by kernel_rfl) (by kernel_rfl) (by kernel_rfl) (fun _ _ _ h => h) (Or.inl ⟨by rfl, ?_⟩) h0 ?_
  rotate_left
  · intro w hSw; (try dsimp only at hSw); obtain ⟨s3, s4⟩ := hSw; go_simp; with_reducible rfl
  try simp only [Act.put, List.setIfInBounds_toArray, List.set_cons_zero, List.set_cons_succ]
  refine wpAnyH_take (i := 7) (v := ?_) rfl (by kernel_rfl) (by kernel_rfl) (by kernel_rfl) (fun _ _ _ h => h) (Or.inl ⟨by rfl, ?_⟩) h0 ?_
  rotate_left
  · intro w hSw; (try dsimp only at hSw); obtain ⟨s3, s4⟩ := hSw; go_simp; with_reducible rfl
  try simp only [Act.put, List.setIfInBounds_toArray, List.set_cons_zero, List.set_cons_succ]
  refine wpAnyH_take (i := 8) (v := ?_) rfl (by kernel_rfl) (by kernel_rfl) (by kernel_rfl) (fun _ _ _ h => h) (Or.inl ⟨by rfl, ?_⟩) h0 ?_
  rotate_left
  · intro w hSw; (try dsimp only at hSw); obtain ⟨s3, s4⟩ := hSw; go_simp; with_reducible rfl
  try simp only [Act.put, List.setIfInBounds_toArray, List.set_cons_zero, List.set_cons_succ]
  refine wpAnyH_take (i := 9) (v := ?_) rfl (by kernel_rfl) (by kernel_rfl) (by kernel_rfl) (fun _ _ _ h => h) (Or.inl ⟨by rfl, ?_⟩) h0 ?_
  rotate_left
  · intro w hSw; (try dsimp only at hSw); obtain ⟨s3, s4⟩ := hSw; go_simp; with_reducible rfl
  try simp only [Act.put, List.setIfInBounds_toArray, List.set_cons_zero, List.set_cons_succ]
  refine wpAnyH_ready (rs := [10]) (by kernel_rfl) (by simp) ?_
  refine AllReadyH.cons rfl (fun K hK => ?_) AllReadyH.nil
  go_simp
  have hal : Below U.heap.size U (U.alloc (.cells #[.int .i64 (n : Int)] 3)) := (Below.refl _ U).alloc (Nat.le_refl _) _
  have hr1 := HR.out.below hal
  have hC1 := cells_one U 3 (.int .i64 (n : Int))
  obtain ⟨zs, t1, t2, t3⟩ := (HT.out.below hal).row
  have t4 := (HT.out.below hal).opn
  have hk1 := HK.out.trans (Keep.of_below hal hBV)
  refine hK.out _ _ ⟨hr1.cells.2.2.1, hr1.cells.2.2.2⟩ (fun h1 => ?_)
  clear hK K
  try simp only [Act.put, List.setIfInBounds_toArray, List.set_cons_zero, List.set_cons_succ]
  refine wpAnyH_ready (rs := [11]) (by kernel_rfl) (by simp) ?_
  refine AllReadyH.cons rfl (fun K hK => ?_) AllReadyH.nil
  refine step_append_fresh _ rfl (.tmp 16) (.tmp 22) _ rfl base 3 q0 (.int .i64 0) 1 8 Tryd.underlying42 hq0 hy0 hy1 hy2 rfl (by decide) _ mo _ rfl t4 _ 1 1 _ rfl hC1 (by intro u hu; simp at hu; subst hu; rfl) (by unfold maxLen; omega) (by omega) (by simp; omega) (by decide) ?_
  intro A6 c6 w6 hown6 hg6 hp6
  have hb6 : Below base (U.alloc (.cells #[.int .i64 (n : Int)] 3)) w6 := (Below.refl _ _).grown hg6 (by simp; omega) (owns_block t4)
  have hr6 := hr1.low (hb6.mono (by omega))
  refine hK.out _ _ ⟨hr6.cells.2.2.1, hr6.cells.2.2.2⟩ (fun h2 => ?_)
  clear hK K
  try simp only [Act.put, List.setIfInBounds_toArray, List.set_cons_zero, List.set_cons_succ]
  refine wpAnyH_take (i := 12) (v := ?_) rfl (by kernel_rfl) (by kernel_rfl) (by kernel_rfl) (fun _ _ _ h => h) (Or.inl ⟨by rfl, ?_⟩) h2 ?_
  rotate_left
  · intro w hSw; (try dsimp only at hSw); obtain ⟨s3, s4⟩ := hSw; go_simp; with_reducible rfl
  try simp only [Act.put, List.setIfInBounds_toArray, List.set_cons_zero, List.set_cons_succ]
  refine wpAnyH_take (i := 13) (v := ?_) rfl (by kernel_rfl) (by kernel_rfl) (by kernel_rfl) (fun _ _ _ h => h) (Or.inl ⟨by rfl, ?_⟩) h2 ?_
  rotate_left
  · intro w hSw; (try dsimp only at hSw); obtain ⟨s3, s4⟩ := hSw; go_simp; with_reducible rfl
  try simp only [Act.put, List.setIfInBounds_toArray, List.set_cons_zero, List.set_cons_succ]
  refine wpAnyH_done (by kernel_rfl) ?_ _
  show wpList _ _ _ _ _ _
  have c4 := hr6.cells.2.2.2
  have f4 := hr6.frozen 4
  have HR7 := Lib.hid (hr6.set (opn' := .slice A6 (mo + 1) c6) 4 (.slice A6 (mo + 1) c6) (fun _ => rfl))
  have HT7 := Lib.hid (Two.open_ t1 t2 t3 t4 hg (n : Int) hown6 hg6 hp6 (.slice A6 (mo + 1) c6))
  have HK7 := Lib.hid ((hk1.trans (Keep.of_below hb6 (Nat.le_refl _))).set 4 (.slice A6 (mo + 1) c6))
  have hB7 : base ≤ (w6.setCell ⟨g, 4, none⟩ (.slice A6 (mo + 1) c6)).heap.size := by have := hb6.size; simp at this ⊢; omega
  clear hr1 hC1 t1 t2 t3 t4 hk1 hal hr6 hb6 hp6 hg6 hown6 h0 h1 h2 HR HT HK hBV
  go_wp2_with fail
  clear c4 f4
  generalize w6.setCell ⟨g, 4, none⟩ (.slice A6 (mo + 1) c6) = V at HR7 HT7 HK7 hB7 ⊢
  have HR := Lib.hid (HR7.out.bar (Bar.refl g V).drew rfl)
  have HT := Lib.hid (HT7.out.bar (Bar.refl g V).drew hg)
  have HK := Lib.hid (HK7.out.trans (Keep.of_bar (Bar.refl g V).drew hB7))
  have hBV : base ≤ V.drew.heap.size := hB7
  clear HR7 HT7 HK7 hB7
  refine wp_region_held_tail 11 (S := fun W' => W'.cell? ⟨g, 3, none⟩ = some (.slice A n c)) (by kernel_rfl) (by kernel_rfl) rfl HR.out.cells.2.2.1 (fun h0 => ?_)
  simp only [headOf, List.take_succ_cons, List.take_zero, List.getElem_toArray, List.getElem_cons_succ, List.getElem_cons_zero]
  generalize V.drew = U at HR HT HK hBV h0 ⊢
  refine wpAnyH_take (i := 0) (v := ?_) rfl (by kernel_rfl) (by kernel_rfl) (by kernel_rfl) (fun _ _ _ h => h) (Or.inl ⟨by rfl, ?_⟩) h0 ?_
  rotate_left
  · intro w hSw; (try dsimp only at hSw); skip; go_simp; with_reducible rfl
  try simp only [Act.put, List.setIfInBounds_toArray, List.set_cons_zero, List.set_cons_succ]
  refine wpAnyH_take (i := 1) (v := ?_) rfl (by kernel_rfl) (by kernel_rfl) (by kernel_rfl) (fun _ _ _ h => h) (Or.inl ⟨by rfl, ?_⟩) h0 ?_
  rotate_left
  · intro w hSw; (try dsimp only at hSw); skip; go_simp; with_reducible rfl
  try simp only [Act.put, List.setIfInBounds_toArray, List.set_cons_zero, List.set_cons_succ]
  refine wpAnyH_take (i := 2) (v := ?_) rfl (by kernel_rfl) (by kernel_rfl) (by kernel_rfl) (fun _ _ _ h => h) (Or.inl ⟨by rfl, ?_⟩) h0 ?_
  rotate_left
  · intro w hSw; (try dsimp only at hSw); skip; go_simp; with_reducible rfl
  try simp only [Act.put, List.setIfInBounds_toArray, List.set_cons_zero, List.set_cons_succ]
  refine wpAnyH_take (i := 3) (v := ?_) rfl (by kernel_rfl) (by kernel_rfl) (by kernel_rfl) (fun _ _ _ h => h) (Or.inl ⟨by rfl, ?_⟩) h0 ?_
  rotate_left
  · intro w hSw; (try dsimp only at hSw); skip; go_simp; with_reducible rfl
  try simp only [Act.put, List.setIfInBounds_toArray, List.set_cons_zero, List.set_cons_succ]
  refine wpAnyH_take (i := 4) (v := ?_) rfl (by kernel_rfl) (by kernel_rfl) (by kernel_rfl) (fun _ _ _ h => h) (Or.inl ⟨by rfl, ?_⟩) h0 ?_
  rotate_left
  · intro w hSw; (try dsimp only at hSw); skip; go_simp; with_reducible rfl
  try simp only [Act.put, List.setIfInBounds_toArray, List.set_cons_zero, List.set_cons_succ]
  refine wpAnyH_take (i := 5) (v := ?_) rfl (by kernel_rfl) (by kernel_rfl) (by kernel_rfl) (fun _ _ _ h => h) (Or.inl ⟨by rfl, ?_⟩) h0 ?_
  rotate_left
  · intro w hSw; (try dsimp only at hSw); skip; go_simp; with_reducible rfl
  try simp only [Act.put, List.setIfInBounds_toArray, List.set_cons_zero, List.set_cons_succ]
  refine wpAnyH_ready (rs := [6]) (by kernel_rfl) (by simp) ?_
  refine AllReadyH.cons rfl (fun K hK => ?_) AllReadyH.nil
  go_simp
  refine (node_block s' U).mono ?_
  rintro e w4 ⟨rfl, hb4⟩
  have hr4 := HR.out.below hb4
  have ht4 := HT.out.below hb4
  have hk4 := HK.out.trans (Keep.of_below hb4 hBV)
  have hs4 := hb4.size
  refine hK.out _ _ hr4.cells.2.2.1 (fun h1 => ?_)
  clear hK K
  try simp only [Act.put, List.setIfInBounds_toArray, List.set_cons_zero, List.set_cons_succ]
  simp only [encM, Sty.none]
  refine wpAnyH_ready (rs := [7]) (by kernel_rfl) (by simp) ?_
  refine AllReadyH.cons rfl (fun K hK => ?_) AllReadyH.nil
  go_simp
  have hal : Below w4.heap.size w4 (w4.alloc (.cells (encM ⟨1, 1, s', 0, 0, none, 0, 0, 0, 0, 0⟩).toArray 50)) := (Below.refl _ w4).alloc (Nat.le_refl _) _
  have hr5 := hr4.below hal
  have hC5 := cells_new w4 50 (encM ⟨1, 1, s', 0, 0, none, 0, 0, 0, 0, 0⟩) _ rfl _ rfl
  obtain ⟨zs, t1, t2, t3⟩ := (ht4.below hal).row
  have t4 := (ht4.below hal).opn
  have hk5 := hk4.trans (Keep.of_below hal (by omega))
  refine hK.out _ _ hr5.cells.2.2.1 (fun h2 => ?_)
  clear hK K
  try simp only [Act.put, List.setIfInBounds_toArray, List.set_cons_zero, List.set_cons_succ]
  refine wpAnyH_ready (rs := [8]) (by kernel_rfl) (by simp) ?_
  refine AllReadyH.cons rfl (fun K hK => ?_) AllReadyH.nil
  refine step_append_cells _ rfl (.tmp 36) (.tmp 39) _ rfl base 50 j0 (.agg (encM ⟨0, 0, .none, 0, 0, none, 0, 0, 0, 0, 0⟩).toArray) 20 176 Tryd.underlying27 hj0 jy0 jy1 jy2 rfl (by decide) _ n _ rfl t1 _ 1 1 _ rfl hC5 (encM_one _) (by unfold maxLen; omega) (by omega) (by simp; omega) ?_
  intro A7 c7 w6 hown6 hg6
  have hb6 : Below base (w4.alloc (.cells (encM ⟨1, 1, s', 0, 0, none, 0, 0, 0, 0, 0⟩).toArray 50)) w6 := (Below.refl _ _).grown hg6 (by simp; omega) (owns_block t1)
  have hr6 := hr5.low (hb6.mono (by omega))
  refine hK.out _ _ hr6.cells.2.2.1 (fun h3 => ?_)
  clear hK K
  try simp only [Act.put, List.setIfInBounds_toArray, List.set_cons_zero, List.set_cons_succ]
  refine wpAnyH_take (i := 9) (v := ?_) rfl (by kernel_rfl) (by kernel_rfl) (by kernel_rfl) (fun _ _ _ h => h) (Or.inl ⟨by rfl, ?_⟩) h3 ?_
  rotate_left
  · intro w hSw; (try dsimp only at hSw); skip; go_simp; with_reducible rfl
  try simp only [Act.put, List.setIfInBounds_toArray, List.set_cons_zero, List.set_cons_succ]
  refine wpAnyH_take (i := 10) (v := ?_) rfl (by kernel_rfl) (by kernel_rfl) (by kernel_rfl) (fun _ _ _ h => h) (Or.inl ⟨by rfl, ?_⟩) h3 ?_
  rotate_left
  · intro w hSw; (try dsimp only at hSw); skip; go_simp; with_reducible rfl
  try simp only [Act.put, List.setIfInBounds_toArray, List.set_cons_zero, List.set_cons_succ]
  refine wpAnyH_done (by kernel_rfl) ?_ _
  show wpList _ _ _ _ _ _
  have c3 := hr6.cells.2.2.1
  have f3 := hr6.frozen 3
  have hm : Holds base (w4.alloc (.cells (encM ⟨1, 1, s', 0, 0, none, 0, 0, 0, 0, 0⟩).toArray 50)) ⟨1, 1, s', 0, 0, none, 0, 0, 0, 0, 0⟩ (blk s' []) := ⟨⟨rfl, rfl, rfl, rfl, rfl, rfl, rfl, rfl⟩, World.ownsRow_nil _ _ _ _⟩
  have HR7 := Lib.hid (hr6.set (row' := .slice A7 (n + 1) c7) 3 (.slice A7 (n + 1) c7) (fun _ => rfl))
  have HT7 := Lib.hid (Two.push t1 t2 t3 t4 hg hm (Other.none A6 (mo + 1) c6) hown6 hg6 (.slice A7 (n + 1) c7))
  have HK7 := Lib.hid ((hk5.trans (Keep.of_below hb6 (Nat.le_refl _))).set 3 (.slice A7 (n + 1) c7))
  clear hr4 ht4 hk4 hb4 hr5 hC5 t1 t2 t3 t4 hk5 hal hr6 hb6 hg6 hown6 h0 h1 h2 h3 HR HT HK hBV hm
  go_wp2_with fail
  go_end0
  exact ⟨⟨_, rfl⟩, A7, c7, A6, c6, HR7.out, HT7.out, HK7.out⟩
end Go.Proofs.YtechccoongilcaaDoor
