import Derived.Test.YtideikbijjheeaaPlaceSpot
import Derived.Test.YtideikbijjheeaaTail
/- The document's answers for package place: Put. (Written by program: tools/drafts/genput11.py.) -/
namespace Go.Proofs.Ytideikbijjheeaa
open Go.RowKit
set_option linter.unusedVariables false
set_option linter.unusedSimpArgs false
/-- floats that can be read, in memory of the call's own. -/
def FlsNew (w : World) (l : List Fl) (e : Ending) (w' : World) : Prop := ∃ A n c, e = .returned (.slice A n c) ∧ n = l.length ∧ Rows 7 encFl w' A n l ∧ Below w.heap.size w w' ∧ ∀ q, A = some q → w.heap.size ≤ q.block
theorem fl_info' : (Try.prog.info? 24).map (fun i => (i.zero, i.size, i.bytes)) = some (some (.agg #[.int .i64 0, .int .i64 0, .int .i64 0, .int .i64 0, .int .i64 0, .int .i64 0, .int .i64 0]), 7, 56) := by kernel_rfl
theorem fls_one' (l : List Fl) : ∀ u ∈ l.flatMap encFl, u.oneCell' = true := by
  intro u hu
  obtain ⟨f, _, hf⟩ := List.mem_flatMap.1 hu
  exact encFl_one f u hf
theorem box_grown {w w' : World} {b : Nat} {row : Option Nat} {vs : List Value} (h : Box w b vs) (hg : w.grownBy w' row) (hne : some b ≠ row) : Box w' b vs := by
  have hb : w'.heap[b]? = w.heap[b]? := hg.block b h.1 hne
  refine ⟨Nat.lt_of_lt_of_le h.1 hg.size, fun o => ?_, fun j v hv => hg.cell (h.2.2 j v hv) hne⟩
  have := h.2.1 o
  unfold World.frozen? at this ⊢
  simp only [hb]
  exact this
theorem cells_box7 {w : World} {b : Nat} {f : Fl} (h : Box w b (encFl f)) : Cells w (some ⟨b, 0, none⟩) 1 7 (encFl f) :=
  ⟨rfl, by decide, fun _ => ⟨b, 0, rfl, h.1, fun j y hy => by rw [Nat.zero_add]; exact h.2.2 j y hy⟩⟩
theorem cells7 (w : World) (f : Fl) (t : TypeId) : Cells (w.alloc (.cells #[.int .i64 f.node, .int .i64 f.side, .int .i64 f.anchor, .int .i64 f.x, .int .i64 f.y, .int .i64 f.w, .int .i64 f.h] t)) (some ⟨w.heap.size, 0, none⟩) 1 7 (encFl f) := cells_box7 (box7 w f t)
set_option maxHeartbeats 16000000 in
set_option maxRecDepth 100000 in
theorem rput_to {l : List Fl} {f0 f1 f2 f3 f4 f5 f6 y a b x t : Int} (hx : spotX l ⟨f0, f1, f2, f3, f4, f5, f6⟩ y a b = x) (ht : spotY l ⟨f0, f1, f2, f3, f4, f5, f6⟩ y a b = t) (hn : ∀ g ∈ l, g.near) (hf : (⟨f0, f1, f2, f3, f4, f5, f6⟩ : Fl).near) (hy : NearI y) (ha : NearI a) (hb : NearI b) {A : Option Addr} {n c : Nat} (hn2 : n ≤ 1000) {w : World} (h : Rows 7 encFl w A n l) :
    Calls Try.prog 10 #[.slice A n c, .agg #[.int .i64 f0, .int .i64 f1, .int .i64 f2, .int .i64 f3, .int .i64 f4, .int .i64 f5, .int .i64 f6], .int .i64 y, .agg #[.int .i64 a, .int .i64 b]] w (FlsNew w (l ++ [⟨f0, f1, f2, x, t, f5, f6⟩])) := by
  have HA := Lib.hid h
  have HL := Lib.hid h.1
  have HSP := Lib.hid (fun (v : World) (hs : Rows 7 encFl v A n l) => rspot_to (c := c) hx ht hn hf hy ha hb hn2 hs)
  obtain ⟨i0, hi0, hz0, hz1, hz2⟩ := info_parts fl_info'
  have HD0 := Lib.hid (show Box ((w.alloc (.cells #[.int .i64 f0, .int .i64 f1, .int .i64 f2, .int .i64 f3, .int .i64 f4, .int .i64 f5, .int .i64 f6] 24)).alloc (.cells #[.int .i64 a, .int .i64 b] 26)) w.heap.size (encFl ⟨f0, f1, f2, f3, f4, f5, f6⟩) from (box7 w ⟨f0, f1, f2, f3, f4, f5, f6⟩ _).alloc _)
  clear h hx ht hn hf hy ha hb
  go_enter Try.func10, Try.ntmps10
  go_wp2_with fail
  refine (HSP.out _ (HA.out.below (show Below w.heap.size w _ by go_grown))).mono ?_
  rintro e w3 ⟨rfl, hb⟩
  have HB3 := Lib.hid (below_then (show Below w.heap.size w _ by go_grown) hb)
  have HD3 := Lib.hid (HD0.out.below hb)
  clear hb HD0
  obtain ⟨⟨p0, p1, p2, p3, p4, p5, p6⟩, hBl⟩ := HD3.out.of7
  have p7 := HD3.out.2.1
  go_wp2_with fail
  clear p0 p1 p2 p3 p4 p5 p6 p7
  generalize hW : (w3.setCell ⟨w.heap.size, 3, none⟩ (.int .i64 x)).setCell ⟨w.heap.size, 4, none⟩ (.int .i64 t) = W
  have HB := Lib.hid (show Below w.heap.size w W by rw [← hW]; exact (HB3.out.setCell (Nat.le_refl _) _).setCell (Nat.le_refl _) _)
  have HD := Lib.hid (show Box W w.heap.size (encFl ⟨f0, f1, f2, x, t, f5, f6⟩) by rw [← hW]; exact (HD3.out.set 3 (.int .i64 x) (by rw [encFl_len]; decide)).set 4 (.int .i64 t) (by rw [List.length_set, encFl_len]; decide))
  clear hW
  obtain ⟨⟨p0, p1, p2, p3, p4, p5, p6⟩, hBl2⟩ := HD.out.of7
  simp only at p0 p1 p2 p3 p4 p5 p6
  have k0 := On.cell p0
  have k1 := On.cell p1
  have k2 := On.cell p2
  have k3 := On.cell p3
  have k4 := On.cell p4
  have k5 := On.cell p5
  have k6 := On.cell p6
  have hC : ∀ V, On W V → Cells V A n 7 (l.flatMap encFl) := fun V hV => (HA.out.below (below_then HB.out hV)).cells encFl_len (by decide)
  clear p0 p1 p2 p3 p4 p5 p6
  refine wp_region_held_tail 6 (S := fun W' => On W W') (by kernel_rfl) (by kernel_rfl) rfl (On.refl _).drew (fun h0 => ?_)
  simp only [headOf, List.take_succ_cons, List.take_zero, List.getElem_toArray, List.getElem_cons_succ, List.getElem_cons_zero]
  refine wpAnyH_take (i := 1) (v := ?_) rfl (by kernel_rfl) (by kernel_rfl) (by kernel_rfl) (fun _ _ _ h => h) (Or.inl ⟨by rfl, ?_⟩) h0 ?_
  rotate_left
  · intro w hSw; (try dsimp only at hSw); go_simp; with_reducible rfl
  try simp only [Act.put, List.setIfInBounds_toArray, List.set_cons_zero, List.set_cons_succ]
  refine wpAnyH_take (i := 3) (v := ?_) rfl (by kernel_rfl) (by kernel_rfl) (by kernel_rfl) (fun _ _ _ h => h) (Or.inl ⟨by rfl, ?_⟩) h0 ?_
  rotate_left
  · intro w hSw; (try dsimp only at hSw); go_simp; with_reducible rfl
  try simp only [Act.put, List.setIfInBounds_toArray, List.set_cons_zero, List.set_cons_succ]
  refine wpAnyH_ready (rs := [0, 4]) (by kernel_rfl) (by simp) ?_
  refine AllReadyH.cons rfl (fun K hK => ?_) (AllReadyH.cons rfl (fun K hK => ?_) AllReadyH.nil)
  · go_simp
    refine hK.out _ _ (On.alloc h0 _) (fun h1 => ?_)
    clear hK K
    try simp only [Act.put, List.setIfInBounds_toArray, List.set_cons_zero, List.set_cons_succ]
    have hO : (W.alloc (.cells #[] 24)).drew.ownsRow W.heap.size 24 7 (.slice (some ⟨W.heap.size, 0, none⟩) 0 0) 0 [] := owns_below (World.ownsRow_made W #[] 0 (Nat.le_refl _) (by decide) rfl) (Below.refl _ _).drew
    refine wpAnyH_ready (rs := [2, 4]) (by kernel_rfl) (by simp) ?_
    refine AllReadyH.cons rfl (fun K hK => ?_) (AllReadyH.cons rfl (fun K hK => ?_) AllReadyH.nil)
    · refine step_append_cells _ rfl (.tmp 19) (.tmp 20) _ rfl W.heap.size 24 i0 (.agg #[.int .i64 0, .int .i64 0, .int .i64 0, .int .i64 0, .int .i64 0, .int .i64 0, .int .i64 0]) 7 56 Try.underlying22 hi0 hz0 hz1 hz2 rfl (by decide) _ 0 [] rfl hO A n c _ rfl (hC _ h1) (fls_one' l) (by unfold maxLen; omega) (by omega) (Below.size h1) ?_
      intro A2 c2 w2 hown2 hg2
      simp only [Nat.zero_add, List.nil_append] at hown2 ⊢
      have hb2 : On W w2 := Below.grown h1 hg2 (Below.size h1) (fun r e => by injection e with e; simp only at e; omega)
      refine hK.out _ _ hb2 (fun h2 => ?_)
      clear hK K
      try simp only [Act.put, List.setIfInBounds_toArray, List.set_cons_zero, List.set_cons_succ]
      refine wpAnyH_ready (rs := [4]) (by kernel_rfl) (by simp) ?_
      refine AllReadyH.cons rfl (fun K hK => ?_) AllReadyH.nil
      go_simp
      refine hK.out _ _ (On.alloc h2 _) (fun h4 => ?_)
      clear hK K
      try simp only [Act.put, List.setIfInBounds_toArray, List.set_cons_zero, List.set_cons_succ]
      have hO4 := owns_below hown2 ((Below.refl w2.heap.size w2).alloc (Nat.le_refl _) (.cells #[.int .i64 f0, .int .i64 f1, .int .i64 f2, .int .i64 x, .int .i64 t, .int .i64 f5, .int .i64 f6] 24))
      refine wpAnyH_ready (rs := [5]) (by kernel_rfl) (by simp) ?_
      refine AllReadyH.cons rfl (fun K hK => ?_) AllReadyH.nil
      refine step_append_cells _ rfl (.tmp 21) (.tmp 23) _ rfl W.heap.size 24 i0 (.agg #[.int .i64 0, .int .i64 0, .int .i64 0, .int .i64 0, .int .i64 0, .int .i64 0, .int .i64 0]) 7 56 Try.underlying22 hi0 hz0 hz1 hz2 rfl (by decide) _ n _ rfl hO4 _ 1 1 _ rfl (cells7 w2 ⟨f0, f1, f2, x, t, f5, f6⟩ 24) (encFl_one ⟨f0, f1, f2, x, t, f5, f6⟩) (by unfold maxLen; omega) (by omega) (Below.size h4) ?_
      intro A5 c5 w5 hown5 hg5
      have hb5 : On W w5 := Below.grown h4 hg5 (Below.size h4) (fun r e => owns_block hO4 r e)
      refine hK.out _ _ hb5 (fun h5 => ?_)
      clear hK K
      try simp only [Act.put, List.setIfInBounds_toArray, List.set_cons_zero, List.set_cons_succ]
      refine wpAnyH_done (by kernel_rfl) ?_ _
      show wpList _ _ _ _ _ _
      have HE := Lib.hid (show FlsNew w (l ++ [⟨f0, f1, f2, x, t, f5, f6⟩]) (.returned (.slice A5 (n + 1) c5)) w5 from ⟨A5, n + 1, c5, rfl, by rw [List.length_append, HL.out]; rfl, by have := ownsRow_rows (enc := encFl) (zs := l ++ [⟨f0, f1, f2, x, t, f5, f6⟩]) encFl_len (by decide) (by rw [List.flatMap_append]; exact hown5); exact this, below_then HB.out hb5, fun q hq => by subst hq; have h9 := owns_block hown5 q.block rfl; have h8 := HB.out.size; omega⟩)
      clear hown5 hg5 hb5
      go_wp2_with fail
      go_ret
      exact HE.out
    · go_simp
      refine hK.out _ _ (On.alloc h1 _) (fun h4 => ?_)
      clear hK K
      try simp only [Act.put, List.setIfInBounds_toArray, List.set_cons_zero, List.set_cons_succ]
      have hX : Box ((W.alloc (.cells #[] 24)).alloc (.cells #[.int .i64 f0, .int .i64 f1, .int .i64 f2, .int .i64 x, .int .i64 t, .int .i64 f5, .int .i64 f6] 24)).drew (W.heap.size + 1) (encFl ⟨f0, f1, f2, x, t, f5, f6⟩) := (show Box ((W.alloc (.cells #[] 24)).alloc (.cells #[.int .i64 f0, .int .i64 f1, .int .i64 f2, .int .i64 x, .int .i64 t, .int .i64 f5, .int .i64 f6] 24)) (W.heap.size + 1) (encFl ⟨f0, f1, f2, x, t, f5, f6⟩) by have := box7 (W.alloc (.cells #[] 24)) ⟨f0, f1, f2, x, t, f5, f6⟩ 24; simpa using this).drew
      have hO4 : ((W.alloc (.cells #[] 24)).alloc (.cells #[.int .i64 f0, .int .i64 f1, .int .i64 f2, .int .i64 x, .int .i64 t, .int .i64 f5, .int .i64 f6] 24)).drew.ownsRow W.heap.size 24 7 (.slice (some ⟨W.heap.size, 0, none⟩) 0 0) 0 [] := owns_below (owns_below (World.ownsRow_made W #[] 0 (Nat.le_refl _) (by decide) rfl) ((Below.refl _ _).alloc (Nat.le_refl _) _)) (Below.refl _ _).drew
      refine wpAnyH_ready (rs := [2]) (by kernel_rfl) (by simp) ?_
      refine AllReadyH.cons rfl (fun K hK => ?_) AllReadyH.nil
      refine step_append_cells _ rfl (.tmp 19) (.tmp 20) _ rfl W.heap.size 24 i0 (.agg #[.int .i64 0, .int .i64 0, .int .i64 0, .int .i64 0, .int .i64 0, .int .i64 0, .int .i64 0]) 7 56 Try.underlying22 hi0 hz0 hz1 hz2 rfl (by decide) _ 0 [] rfl hO4 A n c _ rfl (hC _ h4) (fls_one' l) (by unfold maxLen; omega) (by omega) (Below.size h4) ?_
      intro A2 c2 w2 hown2 hg2
      simp only [Nat.zero_add, List.nil_append] at hown2 ⊢
      have hb2 : On W w2 := Below.grown h4 hg2 (Below.size h4) (fun r e => by injection e with e; simp only at e; omega)
      refine hK.out _ _ hb2 (fun h2 => ?_)
      clear hK K
      try simp only [Act.put, List.setIfInBounds_toArray, List.set_cons_zero, List.set_cons_succ]
      have hX2 := box_grown hX hg2 (fun e => by injection e with e; simp only at e; omega)
      refine wpAnyH_ready (rs := [5]) (by kernel_rfl) (by simp) ?_
      refine AllReadyH.cons rfl (fun K hK => ?_) AllReadyH.nil
      refine step_append_cells _ rfl (.tmp 21) (.tmp 23) _ rfl W.heap.size 24 i0 (.agg #[.int .i64 0, .int .i64 0, .int .i64 0, .int .i64 0, .int .i64 0, .int .i64 0, .int .i64 0]) 7 56 Try.underlying22 hi0 hz0 hz1 hz2 rfl (by decide) _ n _ rfl hown2 _ 1 1 _ rfl (cells_box7 hX2) (encFl_one ⟨f0, f1, f2, x, t, f5, f6⟩) (by unfold maxLen; omega) (by omega) (Below.size h2) ?_
      intro A5 c5 w5 hown5 hg5
      have hb5 : On W w5 := Below.grown h2 hg5 (Below.size h2) (fun r e => owns_block hown2 r e)
      refine hK.out _ _ hb5 (fun h5 => ?_)
      clear hK K
      try simp only [Act.put, List.setIfInBounds_toArray, List.set_cons_zero, List.set_cons_succ]
      refine wpAnyH_done (by kernel_rfl) ?_ _
      show wpList _ _ _ _ _ _
      have HE := Lib.hid (show FlsNew w (l ++ [⟨f0, f1, f2, x, t, f5, f6⟩]) (.returned (.slice A5 (n + 1) c5)) w5 from ⟨A5, n + 1, c5, rfl, by rw [List.length_append, HL.out]; rfl, by have := ownsRow_rows (enc := encFl) (zs := l ++ [⟨f0, f1, f2, x, t, f5, f6⟩]) encFl_len (by decide) (by rw [List.flatMap_append]; exact hown5); exact this, below_then HB.out hb5, fun q hq => by subst hq; have h9 := owns_block hown5 q.block rfl; have h8 := HB.out.size; omega⟩)
      clear hown5 hg5 hb5
      go_wp2_with fail
      go_ret
      exact HE.out
  · go_simp
    refine hK.out _ _ (On.alloc h0 _) (fun h4 => ?_)
    clear hK K
    try simp only [Act.put, List.setIfInBounds_toArray, List.set_cons_zero, List.set_cons_succ]
    refine wpAnyH_ready (rs := [0]) (by kernel_rfl) (by simp) ?_
    refine AllReadyH.cons rfl (fun K hK => ?_) AllReadyH.nil
    go_simp
    refine hK.out _ _ (On.alloc h4 _) (fun h1 => ?_)
    clear hK K
    try simp only [Act.put, List.setIfInBounds_toArray, List.set_cons_zero, List.set_cons_succ]
    have hX : Box ((W.alloc (.cells #[.int .i64 f0, .int .i64 f1, .int .i64 f2, .int .i64 x, .int .i64 t, .int .i64 f5, .int .i64 f6] 24)).alloc (.cells #[] 24)).drew W.heap.size (encFl ⟨f0, f1, f2, x, t, f5, f6⟩) := ((box7 W ⟨f0, f1, f2, x, t, f5, f6⟩ 24).alloc _).drew
    have hO4 : ((W.alloc (.cells #[.int .i64 f0, .int .i64 f1, .int .i64 f2, .int .i64 x, .int .i64 t, .int .i64 f5, .int .i64 f6] 24)).alloc (.cells #[] 24)).drew.ownsRow W.heap.size 24 7 (.slice (some ⟨W.heap.size + 1, 0, none⟩) 0 0) 0 [] := owns_below (show ((W.alloc (.cells #[.int .i64 f0, .int .i64 f1, .int .i64 f2, .int .i64 x, .int .i64 t, .int .i64 f5, .int .i64 f6] 24)).alloc (.cells #[] 24)).ownsRow W.heap.size 24 7 (.slice (some ⟨W.heap.size + 1, 0, none⟩) 0 0) 0 [] by have := World.ownsRow_made (W.alloc (.cells #[.int .i64 f0, .int .i64 f1, .int .i64 f2, .int .i64 x, .int .i64 t, .int .i64 f5, .int .i64 f6] 24)) (base := W.heap.size) (e := 24) (size := 7) #[] 0 (by simp) (by decide) rfl; simpa using this) (Below.refl _ _).drew
    refine wpAnyH_ready (rs := [2]) (by kernel_rfl) (by simp) ?_
    refine AllReadyH.cons rfl (fun K hK => ?_) AllReadyH.nil
    refine step_append_cells _ rfl (.tmp 19) (.tmp 20) _ rfl W.heap.size 24 i0 (.agg #[.int .i64 0, .int .i64 0, .int .i64 0, .int .i64 0, .int .i64 0, .int .i64 0, .int .i64 0]) 7 56 Try.underlying22 hi0 hz0 hz1 hz2 rfl (by decide) _ 0 [] rfl hO4 A n c _ rfl (hC _ h1) (fls_one' l) (by unfold maxLen; omega) (by omega) (Below.size h1) ?_
    intro A2 c2 w2 hown2 hg2
    simp only [Nat.zero_add, List.nil_append] at hown2 ⊢
    have hb2 : On W w2 := Below.grown h1 hg2 (Below.size h1) (fun r e => by injection e with e; simp only at e; omega)
    refine hK.out _ _ hb2 (fun h2 => ?_)
    clear hK K
    try simp only [Act.put, List.setIfInBounds_toArray, List.set_cons_zero, List.set_cons_succ]
    have hX2 := box_grown hX hg2 (fun e => by injection e with e; simp only at e; omega)
    refine wpAnyH_ready (rs := [5]) (by kernel_rfl) (by simp) ?_
    refine AllReadyH.cons rfl (fun K hK => ?_) AllReadyH.nil
    refine step_append_cells _ rfl (.tmp 21) (.tmp 23) _ rfl W.heap.size 24 i0 (.agg #[.int .i64 0, .int .i64 0, .int .i64 0, .int .i64 0, .int .i64 0, .int .i64 0, .int .i64 0]) 7 56 Try.underlying22 hi0 hz0 hz1 hz2 rfl (by decide) _ n _ rfl hown2 _ 1 1 _ rfl (cells_box7 hX2) (encFl_one ⟨f0, f1, f2, x, t, f5, f6⟩) (by unfold maxLen; omega) (by omega) (Below.size h2) ?_
    intro A5 c5 w5 hown5 hg5
    have hb5 : On W w5 := Below.grown h2 hg5 (Below.size h2) (fun r e => owns_block hown2 r e)
    refine hK.out _ _ hb5 (fun h5 => ?_)
    clear hK K
    try simp only [Act.put, List.setIfInBounds_toArray, List.set_cons_zero, List.set_cons_succ]
    refine wpAnyH_done (by kernel_rfl) ?_ _
    show wpList _ _ _ _ _ _
    have HE := Lib.hid (show FlsNew w (l ++ [⟨f0, f1, f2, x, t, f5, f6⟩]) (.returned (.slice A5 (n + 1) c5)) w5 from ⟨A5, n + 1, c5, rfl, by rw [List.length_append, HL.out]; rfl, by have := ownsRow_rows (enc := encFl) (zs := l ++ [⟨f0, f1, f2, x, t, f5, f6⟩]) encFl_len (by decide) (by rw [List.flatMap_append]; exact hown5); exact this, below_then HB.out hb5, fun q hq => by subst hq; have h9 := owns_block hown5 q.block rfl; have h8 := HB.out.size; omega⟩)
    clear hown5 hg5 hb5
    go_wp2_with fail
    go_ret
    exact HE.out
end Go.Proofs.Ytideikbijjheeaa
