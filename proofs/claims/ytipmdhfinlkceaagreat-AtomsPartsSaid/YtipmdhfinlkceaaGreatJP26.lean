import Derived.Test.YtipmdhfinlkceaaGreatJP24
import Derived.Test.YtipmdhfinlkceaaGreatJP01
/- FlowBox. -/
set_option linter.unusedVariables false
set_option linter.unusedSimpArgs false
namespace Go.Proofs.YtipmdhfinlkceaaGreat
open Go.RowKit
section
variable {L : List Nd} {w1 : World} {An Ar : Option Addr} {nn cn nr cr : Nat} {w : World} {s : Gs} {A A2 : Option Addr} {n c m c2 : Nat}
set_option maxHeartbeats 8000000 in
set_option maxRecDepth 100000 in
theorem wbox14_to {i : Nat} {x : Nd} {rx u : Int} (hk : x.kind = 3) (hxf : x.fits) (hS : Sees w1 An nn L) (hx : L[i]? = some x) {zs : List (Int × Int)} (hR : Rows 2 encRm w1 Ar nr zs) (hz : zs[i]? = some (rx, u)) (hi : i < nr) (b0 : 0 ≤ rx) (b1 : rx ≤ maxX) (b2 : 1 ≤ u) (b3 : u ≤ maxX) {H : Int} (hG : GsOk H s) (hH : H ≤ maxN) (hn : n ≤ 10000000) (h : Wk w1 An nn cn Ar nr cr w s A n c A2 m c2) :
    Calls Tryz.prog 41 #[.pointer (some ⟨w1.heap.size, 0, none⟩), .int .i64 (i : Int)] w fun e w' => e = .returned (.tuple #[]) ∧ WkOut w1 An nn cn Ar nr cr w A n c (boxS (rx, u) i x s) w' := by
  have hlen : L.length = nn := hS.len
  have hin : i < nn := by have := (List.getElem?_eq_some_iff.1 hx).1; omega
  obtain ⟨bn, on_, mm, x', rfl, hbn, hx', hrg, hsh⟩ := (hS.below h.on).at_ hin
  obtain rfl : x = x' := by rw [hx] at hx'; injection hx'
  have hpl : s.pen.1 + s.pen.2 ≤ H := hG.p2
  have hp0 := hG.p0
  have hp1 := hG.p1
  have hin2 : (i : Int) < (nn : Int) := by omega
  have HNI := Lib.hid (show NearI rx ∧ NearI (rx + u) ∧ IntKind.i64.wrap (rx + u) = rx + u from ⟨by unfold NearI farB maxX at *; omega, by unfold NearI farB maxX at *; omega, IntWalk.i64_in _ (by unfold maxX at *; omega)⟩)
  have HNP := Lib.hid (show NearI s.pen.1 ∧ NearI s.pen.2 ∧ NearI (s.pen.1 + s.pen.2) from ⟨by unfold NearI farB maxN at *; omega, by unfold NearI farB maxN at *; omega, by unfold NearI farB maxN at *; omega⟩)
  have HFN := Lib.hid (hG.nears hH)
  obtain ⟨hwx, hhx⟩ : (1 ≤ x.w ∧ x.w ≤ maxN) ∧ (1 ≤ x.h ∧ x.h ≤ maxN) := by
    rcases hxf with ⟨h1, _⟩ | ⟨h1, _⟩ | ⟨_, _, _, _, _, h2, h3, _⟩ | ⟨h1, _⟩
    · omega
    · omega
    · exact ⟨h2, h3⟩
    · omega
  have HWH := Lib.hid (show NearI x.h ∧ NearI x.w from ⟨by have := hhx.1; have := hhx.2; unfold NearI farB maxN at *; omega, by have := hwx.1; have := hwx.2; unfold NearI farB maxN at *; omega⟩)
  obtain ⟨t, ht⟩ : ∃ t, seekE s.fls x.h x.w rx (rx + u) (s.pen.1 + s.pen.2) = t := ⟨_, rfl⟩
  obtain ⟨⟨p, q⟩, hp⟩ : ∃ r, bandL s.fls t x.h (rx, rx + u) = r := ⟨_, rfl⟩
  have htl : t ≤ H := by rw [← ht]; exact seekE_le hG.ends hpl
  have htg : s.pen.1 + s.pen.2 ≤ t := by rw [← ht]; exact seekE_ge _
  have HNT := Lib.hid (show NearI t by unfold NearI farB maxN at *; omega)
  have HE := Lib.hid (show boxS (rx, u) i x s = { s with ams := s.ams ++ [(⟨2, (i : Int), 0, 0, p, t, x.w, x.h⟩ : Am)], pen := (t + x.h, 0) } by
    unfold boxS boxY Gs.place
    simp only
    rw [ht, hp])
  have HAC := Lib.hid (fun (V : World) (hV : On w V) => across14_to hR hi hz HNI.out.2.2 (h.below hV))
  have HRM := Lib.hid (fun (V : World) (hV : On w V) => sroomtop_to (c := c2) ht hp HFN.out HNP.out.2.2.y HWH.out.1 HNI.out.1 HNI.out.2.1 (ownsRow_rows encFl_len (by decide) (h.below hV).gs.fls))
  have HT := Lib.hid h
  have HSH := Lib.hid hsh
  have HRG := Lib.hid hrg
  clear hx hx' hrg hsh hS hR hz hG hH h ht hp htl htg hwx hhx hxf hpl hp0 hp1 hk
  obtain ⟨⟨_, _, _, k3, _, _, _⟩, _, _⟩ := HT.out.cells
  go_enter Tryz.func41, Tryz.ntmps41
  go_wp2_with ((with_reducible refine stop_load 40 (.tmp 12) ?_ ?_); exact rfl)
  refine Stop.intro ?_
  refine wpList_load_mid rfl 40 (.tmp 12) rfl bn (on_ + i * 20) rfl (encM mm) _ HRG.out Tryz.underlying40 rfl (by kernel_rfl) ?_
  clear k3
  go_wp2_with ((with_reducible refine stop_store 40 (.tmp 4) (.tmp 13) ?_ ?_); exact rfl)
  refine Stop.intro ?_
  refine wpList_store_row rfl 40 (.tmp 4) (.tmp 13) rfl w.heap.size rfl 40 #[.int .i64 0, .int .i64 0, .int .i64 0, .int .i64 0, .int .i64 0, .int .i64 0, .int .i64 0, .int .i64 0, .int .i64 0, .int .i64 0, .int .i64 0, .int .i64 0, .int .i64 0, .int .i64 0, .int .i64 0, .int .i64 0, .slice none 0 0, .int .i64 0, .int .i64 0, .int .i64 0] (encM mm).toArray rfl (Blk.new w 40 [.int .i64 0, .int .i64 0, .int .i64 0, .int .i64 0, .int .i64 0, .int .i64 0, .int .i64 0, .int .i64 0, .int .i64 0, .int .i64 0, .int .i64 0, .int .i64 0, .int .i64 0, .int .i64 0, .int .i64 0, .int .i64 0, .slice none 0 0, .int .i64 0, .int .i64 0, .int .i64 0] _ rfl _ rfl) (by kernel_rfl) rfl (encM_alls mm) ?_
  intro V hV
  have hbV : On w V := by rw [hV]; exact below_setRow ((Below.refl _ _).alloc (Nat.le_refl _) _) (Nat.le_refl _) _
  have HK := Lib.hid (show Box V w.heap.size (encM mm) by rw [hV]; exact (Blk.row (Blk.new w 40 [.int .i64 0, .int .i64 0, .int .i64 0, .int .i64 0, .int .i64 0, .int .i64 0, .int .i64 0, .int .i64 0, .int .i64 0, .int .i64 0, .int .i64 0, .int .i64 0, .int .i64 0, .int .i64 0, .int .i64 0, .int .i64 0, .slice none 0 0, .int .i64 0, .int .i64 0, .int .i64 0] _ rfl _ rfl) (encM mm) _ rfl).box)
  have HTV := Lib.hid (HT.out.below hbV)
  have HFV := Lib.hid (FrW.of_below (k := w1.heap.size) (r := (Value.slice A n c).ownBlock) hbV)
  have hwV : w.heap.size < V.heap.size := HK.out.1
  have HRL := Lib.hid (owns_block_lt HT.out.gs.ams)
  have hkw : w1.heap.size < w.heap.size := HT.out.box.1
  have HOV := Lib.hid hbV
  clear hV hbV HRG HT
  obtain ⟨_, ⟨_, _, _, _, n18, n19⟩, _⟩ := nd_see HSH.out HK.out
  have n18 := On.cell n18
  have n19 := On.cell n19
  obtain ⟨⟨_, k1, _, _, _, k5, k6⟩, _, _⟩ := HTV.out.cells
  have k1 := On.cell k1
  have k5 := On.cell k5
  have k6 := On.cell k6
  have HAC := Lib.hid (fun (W' : World) (hW : On V W') => HAC.out W' (below_then HOV.out hW))
  have HRM := Lib.hid (fun (W' : World) (hW : On V W') => HRM.out W' (below_then HOV.out hW))
  go_wp2_with fail
  refine wp_region_held_drew (S := fun W' => On V W') (by kernel_rfl) (On.refl _).drew (fun h0 => ?_)
  show wpAnyH _ _ _ _ _ 24 (Array.replicate 24 false) _ _
  refine wpAnyH_take (i := 0) (v := ?_) rfl (by kernel_rfl) (by kernel_rfl) (by kernel_rfl) (fun _ _ _ h => h) (Or.inl ⟨by rfl, ?_⟩) h0 ?_
  rotate_left
  · intro w hSw; (try dsimp only at hSw); go_simp; with_reducible rfl
  try simp only [Act.put, List.setIfInBounds_toArray, List.set_cons_zero, List.set_cons_succ, List.getElem_toArray, List.getElem_cons_succ, List.getElem_cons_zero]
  refine wpAnyH_take (i := 1) (v := ?_) rfl (by kernel_rfl) (by kernel_rfl) (by kernel_rfl) (fun _ _ _ h => h) (Or.inl ⟨by rfl, ?_⟩) h0 ?_
  rotate_left
  · intro w hSw; (try dsimp only at hSw); go_simp; with_reducible rfl
  try simp only [Act.put, List.setIfInBounds_toArray, List.set_cons_zero, List.set_cons_succ, List.getElem_toArray, List.getElem_cons_succ, List.getElem_cons_zero]
  refine wpAnyH_take (i := 2) (v := ?_) rfl (by kernel_rfl) (by kernel_rfl) (by kernel_rfl) (fun _ _ _ h => h) (Or.inl ⟨by rfl, ?_⟩) h0 ?_
  rotate_left
  · intro w hSw; (try dsimp only at hSw); go_simp; with_reducible rfl
  try simp only [Act.put, List.setIfInBounds_toArray, List.set_cons_zero, List.set_cons_succ, List.getElem_toArray, List.getElem_cons_succ, List.getElem_cons_zero]
  refine wpAnyH_take (i := 3) (v := ?_) rfl (by kernel_rfl) (by kernel_rfl) (by kernel_rfl) (fun _ _ _ h => h) (Or.inl ⟨by rfl, ?_⟩) h0 ?_
  rotate_left
  · intro w hSw; (try dsimp only at hSw); go_simp; with_reducible rfl
  try simp only [Act.put, List.setIfInBounds_toArray, List.set_cons_zero, List.set_cons_succ, List.getElem_toArray, List.getElem_cons_succ, List.getElem_cons_zero]
  refine wpAnyH_take (i := 4) (v := ?_) rfl (by kernel_rfl) (by kernel_rfl) (by kernel_rfl) (fun _ _ _ h => h) (Or.inl ⟨by rfl, ?_⟩) h0 ?_
  rotate_left
  · intro w hSw; (try dsimp only at hSw); go_simp; with_reducible rfl
  try simp only [Act.put, List.setIfInBounds_toArray, List.set_cons_zero, List.set_cons_succ, List.getElem_toArray, List.getElem_cons_succ, List.getElem_cons_zero]
  refine wpAnyH_take (i := 5) (v := ?_) rfl (by kernel_rfl) (by kernel_rfl) (by kernel_rfl) (fun _ _ _ h => h) (Or.inl ⟨by rfl, ?_⟩) h0 ?_
  rotate_left
  · intro w hSw; (try dsimp only at hSw); go_simp; with_reducible rfl
  try simp only [Act.put, List.setIfInBounds_toArray, List.set_cons_zero, List.set_cons_succ, List.getElem_toArray, List.getElem_cons_succ, List.getElem_cons_zero]
  refine wpAnyH_take (i := 6) (v := ?_) rfl (by kernel_rfl) (by kernel_rfl) (by kernel_rfl) (fun _ _ _ h => h) (Or.inl ⟨by rfl, ?_⟩) h0 ?_
  rotate_left
  · intro w hSw; (try dsimp only at hSw); go_simp; with_reducible rfl
  try simp only [Act.put, List.setIfInBounds_toArray, List.set_cons_zero, List.set_cons_succ, List.getElem_toArray, List.getElem_cons_succ, List.getElem_cons_zero]
  refine wpAnyH_take (i := 7) (v := ?_) rfl (by kernel_rfl) (by kernel_rfl) (by kernel_rfl) (fun _ _ _ h => h) (Or.inl ⟨by rfl, ?_⟩) h0 ?_
  rotate_left
  · intro w hSw; (try dsimp only at hSw); go_simp; with_reducible rfl
  try simp only [Act.put, List.setIfInBounds_toArray, List.set_cons_zero, List.set_cons_succ, List.getElem_toArray, List.getElem_cons_succ, List.getElem_cons_zero]
  refine wpAnyH_take (i := 8) (v := ?_) rfl (by kernel_rfl) (by kernel_rfl) (by kernel_rfl) (fun _ _ _ h => h) (Or.inl ⟨by rfl, ?_⟩) h0 ?_
  rotate_left
  · intro w hSw; (try dsimp only at hSw); go_simp; with_reducible rfl
  try simp only [Act.put, List.setIfInBounds_toArray, List.set_cons_zero, List.set_cons_succ, List.getElem_toArray, List.getElem_cons_succ, List.getElem_cons_zero]
  refine wpAnyH_take (i := 9) (v := ?_) rfl (by kernel_rfl) (by kernel_rfl) (by kernel_rfl) (fun _ _ _ h => h) (Or.inl ⟨by rfl, ?_⟩) h0 ?_
  rotate_left
  · intro w hSw; (try dsimp only at hSw); go_simp; with_reducible rfl
  try simp only [Act.put, List.setIfInBounds_toArray, List.set_cons_zero, List.set_cons_succ, List.getElem_toArray, List.getElem_cons_succ, List.getElem_cons_zero]
  refine wpAnyH_take (i := 10) (v := ?_) rfl (by kernel_rfl) (by kernel_rfl) (by kernel_rfl) (fun _ _ _ h => h) (Or.inl ⟨by rfl, ?_⟩) h0 ?_
  rotate_left
  · intro w hSw; (try dsimp only at hSw); go_simp; with_reducible rfl
  try simp only [Act.put, List.setIfInBounds_toArray, List.set_cons_zero, List.set_cons_succ, List.getElem_toArray, List.getElem_cons_succ, List.getElem_cons_zero]
  refine wpAnyH_take (i := 11) (v := ?_) rfl (by kernel_rfl) (by kernel_rfl) (by kernel_rfl) (fun _ _ _ h => h) (Or.inl ⟨by rfl, ?_⟩) h0 ?_
  rotate_left
  · intro w hSw; (try dsimp only at hSw); go_simp; with_reducible rfl
  try simp only [Act.put, List.setIfInBounds_toArray, List.set_cons_zero, List.set_cons_succ, List.getElem_toArray, List.getElem_cons_succ, List.getElem_cons_zero]
  refine wpAnyH_take (i := 12) (v := ?_) rfl (by kernel_rfl) (by kernel_rfl) (by kernel_rfl) (fun _ _ _ h => h) (Or.inl ⟨by rfl, ?_⟩) h0 ?_
  rotate_left
  · intro w hSw; (try dsimp only at hSw); go_simp; with_reducible rfl
  try simp only [Act.put, List.setIfInBounds_toArray, List.set_cons_zero, List.set_cons_succ, List.getElem_toArray, List.getElem_cons_succ, List.getElem_cons_zero]
  refine wpAnyH_take (i := 14) (v := ?_) rfl (by kernel_rfl) (by kernel_rfl) (by kernel_rfl) (fun _ _ _ h => h) (Or.inl ⟨by rfl, ?_⟩) h0 ?_
  rotate_left
  · intro w hSw; (try dsimp only at hSw); go_simp; with_reducible rfl
  try simp only [Act.put, List.setIfInBounds_toArray, List.set_cons_zero, List.set_cons_succ, List.getElem_toArray, List.getElem_cons_succ, List.getElem_cons_zero]
  refine wpAnyH_take (i := 15) (v := ?_) rfl (by kernel_rfl) (by kernel_rfl) (by kernel_rfl) (fun _ _ _ h => h) (Or.inl ⟨by rfl, ?_⟩) h0 ?_
  rotate_left
  · intro w hSw; (try dsimp only at hSw); go_simp; with_reducible rfl
  try simp only [Act.put, List.setIfInBounds_toArray, List.set_cons_zero, List.set_cons_succ, List.getElem_toArray, List.getElem_cons_succ, List.getElem_cons_zero]
  refine wpAnyH_ready (rs := [13, 21]) (by kernel_rfl) (by simp) ?_
  refine AllReadyH.cons rfl (fun K hK => ?_) (AllReadyH.cons rfl (fun K hK => ?_) AllReadyH.nil)
  · go_simp
    refine (at13_to HNP.out.1 HNP.out.2.1).mono ?_
    rintro e wA ⟨rfl, hb⟩
    refine hK.out _ _ (On.step h0 hb) (fun h1 => ?_)
    clear hK K hb
    try simp only [Act.put, List.setIfInBounds_toArray, List.set_cons_zero, List.set_cons_succ, List.getElem_toArray, List.getElem_cons_succ, List.getElem_cons_zero]
    refine wpAnyH_ready (rs := [16, 21]) (by kernel_rfl) (by simp) ?_
    refine AllReadyH.cons rfl (fun K hK => ?_) (AllReadyH.cons rfl (fun K hK => ?_) AllReadyH.nil)
    · go_simp
      refine (HAC.out _ h1).mono ?_
      rintro e wB ⟨rfl, hb⟩
      refine hK.out _ _ (On.step h1 hb) (fun h2 => ?_)
      clear hK K hb
      try simp only [Act.put, List.setIfInBounds_toArray, List.set_cons_zero, List.set_cons_succ, List.getElem_toArray, List.getElem_cons_succ, List.getElem_cons_zero]
      refine wpAnyH_ready (rs := [17, 21]) (by kernel_rfl) (by simp) ?_
      refine AllReadyH.cons rfl (fun K hK => ?_) (AllReadyH.cons rfl (fun K hK => ?_) AllReadyH.nil)
      · go_simp
        refine (HRM.out _ h2).mono ?_
        rintro e wC ⟨rfl, hb⟩
        refine hK.out _ _ (On.step h2 hb) (fun h3 => ?_)
        clear hK K hb
        try simp only [Act.put, List.setIfInBounds_toArray, List.set_cons_zero, List.set_cons_succ, List.getElem_toArray, List.getElem_cons_succ, List.getElem_cons_zero]
        refine wpAnyH_take (i := 18) (v := ?_) rfl (by kernel_rfl) (by kernel_rfl) (by kernel_rfl) (fun _ _ _ h => h) (Or.inl ⟨by rfl, ?_⟩) h3 ?_
        rotate_left
        · intro w hSw; (try dsimp only at hSw); go_simp; with_reducible rfl
        try simp only [Act.put, List.setIfInBounds_toArray, List.set_cons_zero, List.set_cons_succ, List.getElem_toArray, List.getElem_cons_succ, List.getElem_cons_zero]
        refine wpAnyH_take (i := 19) (v := ?_) rfl (by kernel_rfl) (by kernel_rfl) (by kernel_rfl) (fun _ _ _ h => h) (Or.inl ⟨by rfl, ?_⟩) h3 ?_
        rotate_left
        · intro w hSw; (try dsimp only at hSw); go_simp; with_reducible rfl
        try simp only [Act.put, List.setIfInBounds_toArray, List.set_cons_zero, List.set_cons_succ, List.getElem_toArray, List.getElem_cons_succ, List.getElem_cons_zero]
        refine wpAnyH_take (i := 20) (v := ?_) rfl (by kernel_rfl) (by kernel_rfl) (by kernel_rfl) (fun _ _ _ h => h) (Or.inl ⟨by rfl, ?_⟩) h3 ?_
        rotate_left
        · intro w hSw; (try dsimp only at hSw); go_simp; with_reducible rfl
        try simp only [Act.put, List.setIfInBounds_toArray, List.set_cons_zero, List.set_cons_succ, List.getElem_toArray, List.getElem_cons_succ, List.getElem_cons_zero]
        refine wpAnyH_ready (rs := [21]) (by kernel_rfl) (by simp) ?_
        refine AllReadyH.cons rfl (fun K hK => ?_) AllReadyH.nil
        go_simp
        have hN := Box.new2 wC (.int .i64 0) (.int .i64 0) 112
        refine hK.out _ _ (On.alloc h3 _) (fun g3 => ?_)
        clear hK K
        try simp only [Act.put, List.setIfInBounds_toArray, List.set_cons_zero, List.set_cons_succ, List.getElem_toArray, List.getElem_cons_succ, List.getElem_cons_zero]
        refine wpAnyH_ready (rs := [22]) (by kernel_rfl) (by simp) ?_
        refine AllReadyH.cons rfl (fun K hK => ?_) AllReadyH.nil
        go_simp
        refine hK.out _ _ (On.alloc h3 _) (fun h9 => ?_)
        clear hK K
        try simp only [Act.put, List.setIfInBounds_toArray, List.set_cons_zero, List.set_cons_succ, List.getElem_toArray, List.getElem_cons_succ, List.getElem_cons_zero]
        refine wpAnyH_take (i := 23) (v := ?_) rfl (by kernel_rfl) (by kernel_rfl) (by kernel_rfl) (fun _ _ _ h => h) (Or.inl ⟨by rfl, ?_⟩) h9 ?_
        rotate_left
        · intro w hSw; (try dsimp only at hSw); go_simp; with_reducible rfl
        try simp only [Act.put, List.setIfInBounds_toArray, List.set_cons_zero, List.set_cons_succ, List.getElem_toArray, List.getElem_cons_succ, List.getElem_cons_zero]
        refine wpAnyH_done (by kernel_rfl) ?_ _
        have HM := Lib.hid (Box.new2 wC (.int .i64 p) (.int .i64 q) 112)
        have HO9 := Lib.hid h9
        clear hN
        generalize wC.alloc (.cells #[.int .i64 p, .int .i64 q] 112) = W9 at HM HO9 h9 ⊢
        generalize wC.heap.size = N9 at HM ⊢
        have HT9 := Lib.hid (HTV.out.below HO9.out)
        have HF9 := Lib.hid (HFV.out.same (FrW.of_below (k := w1.heap.size) (r := (Value.slice A n c).ownBlock) HO9.out))
        clear h9 n18 n19 k1 k5 k6 HAC HRM
        obtain ⟨_, ⟨_, _, _, _, n18, n19⟩, _⟩ := nd_see HSH.out (HK.out.below HO9.out)
        obtain ⟨m0, m1, _, _, _⟩ := HM.out.of2
        go_wp2_with fail
        refine (wput14_to HNT.out HWH.out.1 hn HT9.out).mono ?_
        rintro e w8 ⟨rfl, hw8⟩
        have H8 := Lib.hid hw8
        clear hw8 n18 n19 m0 m1
        go_wp2_with fail
        go_end0
        refine ⟨rfl, ?_⟩
        rw [HE.out]
        exact WkOut.go HF9.out (NewRow.refl _ _) H8.out
      · go_simp
        have hN : Box (wB.alloc (.cells #[.int .i64 0, .int .i64 0] 112)) wB.heap.size [.int .i64 0, .int .i64 0] := Box.new2 wB (.int .i64 0) (.int .i64 0) 112
        have hNV : V.heap.size ≤ wB.heap.size := h2.size
        refine hK.out _ _ (On.alloc h2 _) (fun g2 => ?_)
        clear hK K
        try simp only [Act.put, List.setIfInBounds_toArray, List.set_cons_zero, List.set_cons_succ, List.getElem_toArray, List.getElem_cons_succ, List.getElem_cons_zero]
        refine wpAnyH_ready (rs := [17]) (by kernel_rfl) (by simp) ?_
        refine AllReadyH.cons rfl (fun K hK => ?_) AllReadyH.nil
        go_simp
        refine (HRM.out _ g2).mono ?_
        rintro e wC ⟨rfl, hb⟩
        have hN := hN.below hb
        refine hK.out _ _ (On.step g2 hb) (fun h3 => ?_)
        clear hK K hb
        try simp only [Act.put, List.setIfInBounds_toArray, List.set_cons_zero, List.set_cons_succ, List.getElem_toArray, List.getElem_cons_succ, List.getElem_cons_zero]
        refine wpAnyH_take (i := 18) (v := ?_) rfl (by kernel_rfl) (by kernel_rfl) (by kernel_rfl) (fun _ _ _ h => h) (Or.inl ⟨by rfl, ?_⟩) h3 ?_
        rotate_left
        · intro w hSw; (try dsimp only at hSw); go_simp; with_reducible rfl
        try simp only [Act.put, List.setIfInBounds_toArray, List.set_cons_zero, List.set_cons_succ, List.getElem_toArray, List.getElem_cons_succ, List.getElem_cons_zero]
        refine wpAnyH_take (i := 19) (v := ?_) rfl (by kernel_rfl) (by kernel_rfl) (by kernel_rfl) (fun _ _ _ h => h) (Or.inl ⟨by rfl, ?_⟩) h3 ?_
        rotate_left
        · intro w hSw; (try dsimp only at hSw); go_simp; with_reducible rfl
        try simp only [Act.put, List.setIfInBounds_toArray, List.set_cons_zero, List.set_cons_succ, List.getElem_toArray, List.getElem_cons_succ, List.getElem_cons_zero]
        refine wpAnyH_take (i := 20) (v := ?_) rfl (by kernel_rfl) (by kernel_rfl) (by kernel_rfl) (fun _ _ _ h => h) (Or.inl ⟨by rfl, ?_⟩) h3 ?_
        rotate_left
        · intro w hSw; (try dsimp only at hSw); go_simp; with_reducible rfl
        try simp only [Act.put, List.setIfInBounds_toArray, List.set_cons_zero, List.set_cons_succ, List.getElem_toArray, List.getElem_cons_succ, List.getElem_cons_zero]
        refine wpAnyH_ready (rs := [22]) (by kernel_rfl) (by simp) ?_
        refine AllReadyH.cons rfl (fun K hK => ?_) AllReadyH.nil
        obtain ⟨n0, n1, m0, m1, nl⟩ := hN.of2
        go_simp
        have hNle : V.heap.size ≤ wB.heap.size := hNV
        refine hK.out _ _ (On.set (On.set h3 hNle _) hNle _) (fun h9 => ?_)
        clear hK K n0 n1 m0 m1
        try simp only [Act.put, List.setIfInBounds_toArray, List.set_cons_zero, List.set_cons_succ, List.getElem_toArray, List.getElem_cons_succ, List.getElem_cons_zero]
        refine wpAnyH_take (i := 23) (v := ?_) rfl (by kernel_rfl) (by kernel_rfl) (by kernel_rfl) (fun _ _ _ h => h) (Or.inl ⟨by rfl, ?_⟩) h9 ?_
        rotate_left
        · intro w hSw; (try dsimp only at hSw); go_simp; with_reducible rfl
        try simp only [Act.put, List.setIfInBounds_toArray, List.set_cons_zero, List.set_cons_succ, List.getElem_toArray, List.getElem_cons_succ, List.getElem_cons_zero]
        refine wpAnyH_done (by kernel_rfl) ?_ _
        have HM := Lib.hid ((hN.set 0 (.int .i64 p) (by simp)).set 1 (.int .i64 q) (by simp))
        have HO9 := Lib.hid h9
        clear hN hNle hNV
        generalize (wC.setCell ⟨wB.heap.size, 0, none⟩ (.int .i64 p)).setCell ⟨wB.heap.size, 1, none⟩ (.int .i64 q) = W9 at HM HO9 h9 ⊢
        generalize wB.heap.size = N9 at HM ⊢
        have HT9 := Lib.hid (HTV.out.below HO9.out)
        have HF9 := Lib.hid (HFV.out.same (FrW.of_below (k := w1.heap.size) (r := (Value.slice A n c).ownBlock) HO9.out))
        clear h9 n18 n19 k1 k5 k6 HAC HRM
        obtain ⟨_, ⟨_, _, _, _, n18, n19⟩, _⟩ := nd_see HSH.out (HK.out.below HO9.out)
        obtain ⟨m0, m1, _, _, _⟩ := HM.out.of2
        go_wp2_with fail
        refine (wput14_to HNT.out HWH.out.1 hn HT9.out).mono ?_
        rintro e w8 ⟨rfl, hw8⟩
        have H8 := Lib.hid hw8
        clear hw8 n18 n19 m0 m1
        go_wp2_with fail
        go_end0
        refine ⟨rfl, ?_⟩
        rw [HE.out]
        exact WkOut.go HF9.out (NewRow.refl _ _) H8.out
    · go_simp
      have hN : Box (wA.alloc (.cells #[.int .i64 0, .int .i64 0] 112)) wA.heap.size [.int .i64 0, .int .i64 0] := Box.new2 wA (.int .i64 0) (.int .i64 0) 112
      have hNV : V.heap.size ≤ wA.heap.size := h1.size
      refine hK.out _ _ (On.alloc h1 _) (fun g1 => ?_)
      clear hK K
      try simp only [Act.put, List.setIfInBounds_toArray, List.set_cons_zero, List.set_cons_succ, List.getElem_toArray, List.getElem_cons_succ, List.getElem_cons_zero]
      refine wpAnyH_ready (rs := [16]) (by kernel_rfl) (by simp) ?_
      refine AllReadyH.cons rfl (fun K hK => ?_) AllReadyH.nil
      go_simp
      refine (HAC.out _ g1).mono ?_
      rintro e wB ⟨rfl, hb⟩
      have hN := hN.below hb
      refine hK.out _ _ (On.step g1 hb) (fun h2 => ?_)
      clear hK K hb
      try simp only [Act.put, List.setIfInBounds_toArray, List.set_cons_zero, List.set_cons_succ, List.getElem_toArray, List.getElem_cons_succ, List.getElem_cons_zero]
      refine wpAnyH_ready (rs := [17]) (by kernel_rfl) (by simp) ?_
      refine AllReadyH.cons rfl (fun K hK => ?_) AllReadyH.nil
      go_simp
      refine (HRM.out _ h2).mono ?_
      rintro e wC ⟨rfl, hb⟩
      have hN := hN.below hb
      refine hK.out _ _ (On.step h2 hb) (fun h3 => ?_)
      clear hK K hb
      try simp only [Act.put, List.setIfInBounds_toArray, List.set_cons_zero, List.set_cons_succ, List.getElem_toArray, List.getElem_cons_succ, List.getElem_cons_zero]
      refine wpAnyH_take (i := 18) (v := ?_) rfl (by kernel_rfl) (by kernel_rfl) (by kernel_rfl) (fun _ _ _ h => h) (Or.inl ⟨by rfl, ?_⟩) h3 ?_
      rotate_left
      · intro w hSw; (try dsimp only at hSw); go_simp; with_reducible rfl
      try simp only [Act.put, List.setIfInBounds_toArray, List.set_cons_zero, List.set_cons_succ, List.getElem_toArray, List.getElem_cons_succ, List.getElem_cons_zero]
      refine wpAnyH_take (i := 19) (v := ?_) rfl (by kernel_rfl) (by kernel_rfl) (by kernel_rfl) (fun _ _ _ h => h) (Or.inl ⟨by rfl, ?_⟩) h3 ?_
      rotate_left
      · intro w hSw; (try dsimp only at hSw); go_simp; with_reducible rfl
      try simp only [Act.put, List.setIfInBounds_toArray, List.set_cons_zero, List.set_cons_succ, List.getElem_toArray, List.getElem_cons_succ, List.getElem_cons_zero]
      refine wpAnyH_take (i := 20) (v := ?_) rfl (by kernel_rfl) (by kernel_rfl) (by kernel_rfl) (fun _ _ _ h => h) (Or.inl ⟨by rfl, ?_⟩) h3 ?_
      rotate_left
      · intro w hSw; (try dsimp only at hSw); go_simp; with_reducible rfl
      try simp only [Act.put, List.setIfInBounds_toArray, List.set_cons_zero, List.set_cons_succ, List.getElem_toArray, List.getElem_cons_succ, List.getElem_cons_zero]
      refine wpAnyH_ready (rs := [22]) (by kernel_rfl) (by simp) ?_
      refine AllReadyH.cons rfl (fun K hK => ?_) AllReadyH.nil
      obtain ⟨n0, n1, m0, m1, nl⟩ := hN.of2
      go_simp
      have hNle : V.heap.size ≤ wA.heap.size := hNV
      refine hK.out _ _ (On.set (On.set h3 hNle _) hNle _) (fun h9 => ?_)
      clear hK K n0 n1 m0 m1
      try simp only [Act.put, List.setIfInBounds_toArray, List.set_cons_zero, List.set_cons_succ, List.getElem_toArray, List.getElem_cons_succ, List.getElem_cons_zero]
      refine wpAnyH_take (i := 23) (v := ?_) rfl (by kernel_rfl) (by kernel_rfl) (by kernel_rfl) (fun _ _ _ h => h) (Or.inl ⟨by rfl, ?_⟩) h9 ?_
      rotate_left
      · intro w hSw; (try dsimp only at hSw); go_simp; with_reducible rfl
      try simp only [Act.put, List.setIfInBounds_toArray, List.set_cons_zero, List.set_cons_succ, List.getElem_toArray, List.getElem_cons_succ, List.getElem_cons_zero]
      refine wpAnyH_done (by kernel_rfl) ?_ _
      have HM := Lib.hid ((hN.set 0 (.int .i64 p) (by simp)).set 1 (.int .i64 q) (by simp))
      have HO9 := Lib.hid h9
      clear hN hNle hNV
      generalize (wC.setCell ⟨wA.heap.size, 0, none⟩ (.int .i64 p)).setCell ⟨wA.heap.size, 1, none⟩ (.int .i64 q) = W9 at HM HO9 h9 ⊢
      generalize wA.heap.size = N9 at HM ⊢
      have HT9 := Lib.hid (HTV.out.below HO9.out)
      have HF9 := Lib.hid (HFV.out.same (FrW.of_below (k := w1.heap.size) (r := (Value.slice A n c).ownBlock) HO9.out))
      clear h9 n18 n19 k1 k5 k6 HAC HRM
      obtain ⟨_, ⟨_, _, _, _, n18, n19⟩, _⟩ := nd_see HSH.out (HK.out.below HO9.out)
      obtain ⟨m0, m1, _, _, _⟩ := HM.out.of2
      go_wp2_with fail
      refine (wput14_to HNT.out HWH.out.1 hn HT9.out).mono ?_
      rintro e w8 ⟨rfl, hw8⟩
      have H8 := Lib.hid hw8
      clear hw8 n18 n19 m0 m1
      go_wp2_with fail
      go_end0
      refine ⟨rfl, ?_⟩
      rw [HE.out]
      exact WkOut.go HF9.out (NewRow.refl _ _) H8.out
  · go_simp
    have hN : Box (V.drew.alloc (.cells #[.int .i64 0, .int .i64 0] 112)) V.heap.size [.int .i64 0, .int .i64 0] := Box.new2 V.drew (.int .i64 0) (.int .i64 0) 112
    have hNV : V.heap.size ≤ V.heap.size := h0.size
    refine hK.out _ _ (On.alloc h0 _) (fun g0 => ?_)
    clear hK K
    try simp only [Act.put, List.setIfInBounds_toArray, List.set_cons_zero, List.set_cons_succ, List.getElem_toArray, List.getElem_cons_succ, List.getElem_cons_zero]
    refine wpAnyH_ready (rs := [13]) (by kernel_rfl) (by simp) ?_
    refine AllReadyH.cons rfl (fun K hK => ?_) AllReadyH.nil
    go_simp
    refine (at13_to HNP.out.1 HNP.out.2.1).mono ?_
    rintro e wA ⟨rfl, hb⟩
    have hN := hN.below hb
    refine hK.out _ _ (On.step g0 hb) (fun h1 => ?_)
    clear hK K hb
    try simp only [Act.put, List.setIfInBounds_toArray, List.set_cons_zero, List.set_cons_succ, List.getElem_toArray, List.getElem_cons_succ, List.getElem_cons_zero]
    refine wpAnyH_ready (rs := [16]) (by kernel_rfl) (by simp) ?_
    refine AllReadyH.cons rfl (fun K hK => ?_) AllReadyH.nil
    go_simp
    refine (HAC.out _ h1).mono ?_
    rintro e wB ⟨rfl, hb⟩
    have hN := hN.below hb
    refine hK.out _ _ (On.step h1 hb) (fun h2 => ?_)
    clear hK K hb
    try simp only [Act.put, List.setIfInBounds_toArray, List.set_cons_zero, List.set_cons_succ, List.getElem_toArray, List.getElem_cons_succ, List.getElem_cons_zero]
    refine wpAnyH_ready (rs := [17]) (by kernel_rfl) (by simp) ?_
    refine AllReadyH.cons rfl (fun K hK => ?_) AllReadyH.nil
    go_simp
    refine (HRM.out _ h2).mono ?_
    rintro e wC ⟨rfl, hb⟩
    have hN := hN.below hb
    refine hK.out _ _ (On.step h2 hb) (fun h3 => ?_)
    clear hK K hb
    try simp only [Act.put, List.setIfInBounds_toArray, List.set_cons_zero, List.set_cons_succ, List.getElem_toArray, List.getElem_cons_succ, List.getElem_cons_zero]
    refine wpAnyH_take (i := 18) (v := ?_) rfl (by kernel_rfl) (by kernel_rfl) (by kernel_rfl) (fun _ _ _ h => h) (Or.inl ⟨by rfl, ?_⟩) h3 ?_
    rotate_left
    · intro w hSw; (try dsimp only at hSw); go_simp; with_reducible rfl
    try simp only [Act.put, List.setIfInBounds_toArray, List.set_cons_zero, List.set_cons_succ, List.getElem_toArray, List.getElem_cons_succ, List.getElem_cons_zero]
    refine wpAnyH_take (i := 19) (v := ?_) rfl (by kernel_rfl) (by kernel_rfl) (by kernel_rfl) (fun _ _ _ h => h) (Or.inl ⟨by rfl, ?_⟩) h3 ?_
    rotate_left
    · intro w hSw; (try dsimp only at hSw); go_simp; with_reducible rfl
    try simp only [Act.put, List.setIfInBounds_toArray, List.set_cons_zero, List.set_cons_succ, List.getElem_toArray, List.getElem_cons_succ, List.getElem_cons_zero]
    refine wpAnyH_take (i := 20) (v := ?_) rfl (by kernel_rfl) (by kernel_rfl) (by kernel_rfl) (fun _ _ _ h => h) (Or.inl ⟨by rfl, ?_⟩) h3 ?_
    rotate_left
    · intro w hSw; (try dsimp only at hSw); go_simp; with_reducible rfl
    try simp only [Act.put, List.setIfInBounds_toArray, List.set_cons_zero, List.set_cons_succ, List.getElem_toArray, List.getElem_cons_succ, List.getElem_cons_zero]
    refine wpAnyH_ready (rs := [22]) (by kernel_rfl) (by simp) ?_
    refine AllReadyH.cons rfl (fun K hK => ?_) AllReadyH.nil
    obtain ⟨n0, n1, m0, m1, nl⟩ := hN.of2
    go_simp
    have hNle : V.heap.size ≤ V.heap.size := hNV
    refine hK.out _ _ (On.set (On.set h3 hNle _) hNle _) (fun h9 => ?_)
    clear hK K n0 n1 m0 m1
    try simp only [Act.put, List.setIfInBounds_toArray, List.set_cons_zero, List.set_cons_succ, List.getElem_toArray, List.getElem_cons_succ, List.getElem_cons_zero]
    refine wpAnyH_take (i := 23) (v := ?_) rfl (by kernel_rfl) (by kernel_rfl) (by kernel_rfl) (fun _ _ _ h => h) (Or.inl ⟨by rfl, ?_⟩) h9 ?_
    rotate_left
    · intro w hSw; (try dsimp only at hSw); go_simp; with_reducible rfl
    try simp only [Act.put, List.setIfInBounds_toArray, List.set_cons_zero, List.set_cons_succ, List.getElem_toArray, List.getElem_cons_succ, List.getElem_cons_zero]
    refine wpAnyH_done (by kernel_rfl) ?_ _
    have HM := Lib.hid ((hN.set 0 (.int .i64 p) (by simp)).set 1 (.int .i64 q) (by simp))
    have HO9 := Lib.hid h9
    clear hN hNle hNV
    generalize (wC.setCell ⟨V.heap.size, 0, none⟩ (.int .i64 p)).setCell ⟨V.heap.size, 1, none⟩ (.int .i64 q) = W9 at HM HO9 h9 ⊢
    skip
    have HT9 := Lib.hid (HTV.out.below HO9.out)
    have HF9 := Lib.hid (HFV.out.same (FrW.of_below (k := w1.heap.size) (r := (Value.slice A n c).ownBlock) HO9.out))
    clear h9 n18 n19 k1 k5 k6 HAC HRM
    obtain ⟨_, ⟨_, _, _, _, n18, n19⟩, _⟩ := nd_see HSH.out (HK.out.below HO9.out)
    obtain ⟨m0, m1, _, _, _⟩ := HM.out.of2
    go_wp2_with fail
    refine (wput14_to HNT.out HWH.out.1 hn HT9.out).mono ?_
    rintro e w8 ⟨rfl, hw8⟩
    have H8 := Lib.hid hw8
    clear hw8 n18 n19 m0 m1
    go_wp2_with fail
    go_end0
    refine ⟨rfl, ?_⟩
    rw [HE.out]
    exact WkOut.go HF9.out (NewRow.refl _ _) H8.out
end
end Go.Proofs.YtipmdhfinlkceaaGreat
