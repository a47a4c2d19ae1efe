import Derived.Test.YtipmdhfinlkceaaGreatJP24
import Derived.Test.YtipmdhfinlkceaaGreatJP01
import Derived.BigRegion
/- FlowFloat. -/
set_option linter.unusedVariables false
set_option linter.unusedSimpArgs false
namespace Go.Proofs.YtipmdhfinlkceaaGreat
open Go.RowKit
section
variable {L : List Nd} {w1 : World} {An Ar : Option Addr} {nn cn nr cr : Nat} {w : World} {s : Gs} {A A2 : Option Addr} {n c m c2 : Nat}
set_option maxHeartbeats 8000000 in
set_option maxRecDepth 100000 in
theorem wfloat14_to {i : Nat} {x : Nd} {rx u : Int} (hk : x.kind = 4) (hxf : x.fits) (hS : Sees w1 An nn L) (hx : L[i]? = some x) {zs : List (Int × Int)} (hR : Rows 2 encRm w1 Ar nr zs) (hz : zs[i]? = some (rx, u)) (hi : i < nr) (b0 : 0 ≤ rx) (b1 : rx ≤ maxX) (b2 : 1 ≤ u) (b3 : u ≤ maxX) {H : Int} (hG : GsOk H s) (hH : H ≤ maxN) (hn : n ≤ 10000000) (h : Wk w1 An nn cn Ar nr cr w s A n c A2 m c2) (hm : m ≤ 10000) :
    Calls Tryz.prog 42 #[.pointer (some ⟨w1.heap.size, 0, none⟩), .int .i64 (i : Int)] w fun e w' => e = .returned (.tuple #[]) ∧ WkOut w1 An nn cn Ar nr cr w A n c (floatS (rx, u) i x s) w' := by
  have hlen : L.length = nn := hS.len
  have hin : i < nn := by have := (List.getElem?_eq_some_iff.1 hx).1; omega
  obtain ⟨bn, on_, mm, x', rfl, hbn, hx', hrg, hsh⟩ := (hS.below h.on).at_ hin
  obtain rfl : x = x' := by rw [hx] at hx'; injection hx'
  have hpl : s.pen.1 + s.pen.2 ≤ H := hG.p2
  have hp0 := hG.p0
  have hp1 := hG.p1
  have hin2 : (i : Int) < (nn : Int) := by omega
  have HNI := Lib.hid (show NearI rx ∧ NearI (rx + u) ∧ IntKind.i64.wrap (rx + u) = rx + u from ⟨by unfold NearI farB maxX at *; omega, by unfold NearI farB maxX at *; omega, IntWalk.i64_in _ (by unfold maxX at *; omega)⟩)
  have HNP := Lib.hid (show NearI s.pen.1 ∧ NearI s.pen.2 ∧ NearI (s.pen.1 + s.pen.2) from ⟨by unfold NearI farB maxN at *; omega, by unfold NearI farB maxN at *; omega, by unfold NearI farB maxN at *; omega⟩)
  have HFN := Lib.hid (hG.nears hH)
  obtain ⟨hwx, hhx⟩ : (1 ≤ x.w ∧ x.w ≤ maxN) ∧ (1 ≤ x.h ∧ x.h ≤ maxN) := by
    rcases hxf with ⟨h1, _⟩ | ⟨h1, _⟩ | ⟨h1, _⟩ | ⟨_, _, _, _, _, h2, h3, _⟩
    · omega
    · omega
    · omega
    · exact ⟨h2, h3⟩
  have HNF := Lib.hid (show (⟨(i : Int), x.side, (n : Int), 0, 0, x.w, x.h⟩ : Fl).near from ⟨by unfold NearI farB; simp, by unfold NearI farB; simp, by unfold NearI farB maxN at *; simp only; omega, by unfold NearI farB maxN at *; simp only; omega⟩)
  obtain ⟨p, hp⟩ : ∃ p, spotX s.fls ⟨(i : Int), x.side, (n : Int), 0, 0, x.w, x.h⟩ (s.pen.1 + s.pen.2) rx (rx + u) = p := ⟨_, rfl⟩
  obtain ⟨q, hq⟩ : ∃ q, spotY s.fls ⟨(i : Int), x.side, (n : Int), 0, 0, x.w, x.h⟩ (s.pen.1 + s.pen.2) rx (rx + u) = q := ⟨_, rfl⟩
  have HE := Lib.hid (show floatS (rx, u) i x s = { s with fls := s.fls ++ [⟨(i : Int), x.side, (n : Int), p, q, x.w, x.h⟩] } by
    have hna := h.gs.na
    unfold floatS putL Gs.place
    simp only
    rw [hna, hp, hq])
  have HAC := Lib.hid (fun (V : World) (hV : On w V) => across14_to hR hi hz HNI.out.2.2 (h.below hV))
  have HPU := Lib.hid (fun (V : World) (hV : On w V) => put11_to (c := c2) hp hq HFN.out HNF.out HNP.out.2.2 HNI.out.1 HNI.out.2.1 hm (ownsRow_rows encFl_len (by decide) (h.below hV).gs.fls))
  have HT := Lib.hid h
  have HSH := Lib.hid hsh
  have HRG := Lib.hid hrg
  clear hx hx' hrg hsh hS hR hz hG hH h hp hq hwx hhx hxf hpl hp0 hp1 hk
  obtain ⟨⟨_, _, _, k3, _, _, _⟩, _, _⟩ := HT.out.cells
  go_enter Tryz.func42, Tryz.ntmps42
  go_wp2_with ((with_reducible refine stop_load 40 (.tmp 11) ?_ ?_); exact rfl)
  refine Stop.intro ?_
  refine wpList_load_mid rfl 40 (.tmp 11) rfl bn (on_ + i * 20) rfl (encM mm) _ HRG.out Tryz.underlying40 rfl (by kernel_rfl) ?_
  clear k3
  go_wp2_with ((with_reducible refine stop_store 40 (.tmp 4) (.tmp 12) ?_ ?_); exact rfl)
  refine Stop.intro ?_
  refine wpList_store_row rfl 40 (.tmp 4) (.tmp 12) rfl w.heap.size rfl 40 #[.int .i64 0, .int .i64 0, .int .i64 0, .int .i64 0, .int .i64 0, .int .i64 0, .int .i64 0, .int .i64 0, .int .i64 0, .int .i64 0, .int .i64 0, .int .i64 0, .int .i64 0, .int .i64 0, .int .i64 0, .int .i64 0, .slice none 0 0, .int .i64 0, .int .i64 0, .int .i64 0] (encM mm).toArray rfl (Blk.new w 40 [.int .i64 0, .int .i64 0, .int .i64 0, .int .i64 0, .int .i64 0, .int .i64 0, .int .i64 0, .int .i64 0, .int .i64 0, .int .i64 0, .int .i64 0, .int .i64 0, .int .i64 0, .int .i64 0, .int .i64 0, .int .i64 0, .slice none 0 0, .int .i64 0, .int .i64 0, .int .i64 0] _ rfl _ rfl) (by kernel_rfl) rfl (encM_alls mm) ?_
  intro V hV
  have hbV : On w V := by rw [hV]; exact below_setRow ((Below.refl _ _).alloc (Nat.le_refl _) _) (Nat.le_refl _) _
  have HK := Lib.hid (show Box V w.heap.size (encM mm) by rw [hV]; exact (Blk.row (Blk.new w 40 [.int .i64 0, .int .i64 0, .int .i64 0, .int .i64 0, .int .i64 0, .int .i64 0, .int .i64 0, .int .i64 0, .int .i64 0, .int .i64 0, .int .i64 0, .int .i64 0, .int .i64 0, .int .i64 0, .int .i64 0, .int .i64 0, .slice none 0 0, .int .i64 0, .int .i64 0, .int .i64 0] _ rfl _ rfl) (encM mm) _ rfl).box)
  have HTV := Lib.hid (HT.out.below hbV)
  have HFV := Lib.hid (FrW.of_below (k := w1.heap.size) (r := (Value.slice A n c).ownBlock) hbV)
  have hwV : w.heap.size < V.heap.size := HK.out.1
  have HRL := Lib.hid (owns_block_lt HT.out.gs.ams)
  have hkw : w1.heap.size < w.heap.size := HT.out.box.1
  have HOV := Lib.hid hbV
  clear hV hbV HRG HT
  obtain ⟨_, ⟨_, _, _, n17, n18, n19⟩, _⟩ := nd_see HSH.out HK.out
  obtain ⟨⟨k0, _, _, _, _, _, _⟩, _, _⟩ := HTV.out.cells
  have n17 := On.cell n17
  have n18 := On.cell n18
  have n19 := On.cell n19
  have k0 := On.cell k0
  go_wp2_with fail
  refine wp_region_held_tail 15 (S := fun W' => On V W') (by kernel_rfl) (by kernel_rfl) rfl (On.refl _).drew (fun h0 => ?_)
  simp only [headOf, List.take_succ_cons, List.take_zero, List.getElem_toArray, List.getElem_cons_succ, List.getElem_cons_zero]
  refine wpAnyH_take (i := 0) (v := ?_) rfl (by kernel_rfl) (by kernel_rfl) (by kernel_rfl) (fun _ _ _ h => h) (Or.inl ⟨by rfl, ?_⟩) h0 ?_
  rotate_left
  · intro w hSw; (try dsimp only at hSw); go_simp; with_reducible rfl
  try simp only [Act.put, List.setIfInBounds_toArray, List.set_cons_zero, List.set_cons_succ, List.getElem_toArray, List.getElem_cons_succ, List.getElem_cons_zero]
  refine wpAnyH_take (i := 1) (v := ?_) rfl (by kernel_rfl) (by kernel_rfl) (by kernel_rfl) (fun _ _ _ h => h) (Or.inl ⟨by rfl, ?_⟩) h0 ?_
  rotate_left
  · intro w hSw; (try dsimp only at hSw); go_simp; with_reducible rfl
  try simp only [Act.put, List.setIfInBounds_toArray, List.set_cons_zero, List.set_cons_succ, List.getElem_toArray, List.getElem_cons_succ, List.getElem_cons_zero]
  refine wpAnyH_take (i := 2) (v := ?_) rfl (by kernel_rfl) (by kernel_rfl) (by kernel_rfl) (fun _ _ _ h => h) (Or.inl ⟨by rfl, ?_⟩) h0 ?_
  rotate_left
  · intro w hSw; (try dsimp only at hSw); go_simp; with_reducible rfl
  try simp only [Act.put, List.setIfInBounds_toArray, List.set_cons_zero, List.set_cons_succ, List.getElem_toArray, List.getElem_cons_succ, List.getElem_cons_zero]
  refine wpAnyH_take (i := 3) (v := ?_) rfl (by kernel_rfl) (by kernel_rfl) (by kernel_rfl) (fun _ _ _ h => h) (Or.inl ⟨by rfl, ?_⟩) h0 ?_
  rotate_left
  · intro w hSw; (try dsimp only at hSw); go_simp; with_reducible rfl
  try simp only [Act.put, List.setIfInBounds_toArray, List.set_cons_zero, List.set_cons_succ, List.getElem_toArray, List.getElem_cons_succ, List.getElem_cons_zero]
  refine wpAnyH_take (i := 4) (v := ?_) rfl (by kernel_rfl) (by kernel_rfl) (by kernel_rfl) (fun _ _ _ h => h) (Or.inl ⟨by rfl, ?_⟩) h0 ?_
  rotate_left
  · intro w hSw; (try dsimp only at hSw); go_simp; with_reducible rfl
  try simp only [Act.put, List.setIfInBounds_toArray, List.set_cons_zero, List.set_cons_succ, List.getElem_toArray, List.getElem_cons_succ, List.getElem_cons_zero]
  refine wpAnyH_take (i := 5) (v := ?_) rfl (by kernel_rfl) (by kernel_rfl) (by kernel_rfl) (fun _ _ _ h => h) (Or.inl ⟨by rfl, ?_⟩) h0 ?_
  rotate_left
  · intro w hSw; (try dsimp only at hSw); go_simp; with_reducible rfl
  try simp only [Act.put, List.setIfInBounds_toArray, List.set_cons_zero, List.set_cons_succ, List.getElem_toArray, List.getElem_cons_succ, List.getElem_cons_zero]
  refine wpAnyH_take (i := 6) (v := ?_) rfl (by kernel_rfl) (by kernel_rfl) (by kernel_rfl) (fun _ _ _ h => h) (Or.inl ⟨by rfl, ?_⟩) h0 ?_
  rotate_left
  · intro w hSw; (try dsimp only at hSw); go_simp; with_reducible rfl
  try simp only [Act.put, List.setIfInBounds_toArray, List.set_cons_zero, List.set_cons_succ, List.getElem_toArray, List.getElem_cons_succ, List.getElem_cons_zero]
  refine wpAnyH_take (i := 7) (v := ?_) rfl (by kernel_rfl) (by kernel_rfl) (by kernel_rfl) (fun _ _ _ h => h) (Or.inl ⟨by rfl, ?_⟩) h0 ?_
  rotate_left
  · intro w hSw; (try dsimp only at hSw); go_simp; with_reducible rfl
  try simp only [Act.put, List.setIfInBounds_toArray, List.set_cons_zero, List.set_cons_succ, List.getElem_toArray, List.getElem_cons_succ, List.getElem_cons_zero]
  refine wpAnyH_take (i := 8) (v := ?_) rfl (by kernel_rfl) (by kernel_rfl) (by kernel_rfl) (fun _ _ _ h => h) (Or.inl ⟨by rfl, ?_⟩) h0 ?_
  rotate_left
  · intro w hSw; (try dsimp only at hSw); go_simp; with_reducible rfl
  try simp only [Act.put, List.setIfInBounds_toArray, List.set_cons_zero, List.set_cons_succ, List.getElem_toArray, List.getElem_cons_succ, List.getElem_cons_zero]
  refine wpAnyH_take (i := 9) (v := ?_) rfl (by kernel_rfl) (by kernel_rfl) (by kernel_rfl) (fun _ _ _ h => h) (Or.inl ⟨by rfl, ?_⟩) h0 ?_
  rotate_left
  · intro w hSw; (try dsimp only at hSw); go_simp; with_reducible rfl
  try simp only [Act.put, List.setIfInBounds_toArray, List.set_cons_zero, List.set_cons_succ, List.getElem_toArray, List.getElem_cons_succ, List.getElem_cons_zero]
  refine wpAnyH_take (i := 10) (v := ?_) rfl (by kernel_rfl) (by kernel_rfl) (by kernel_rfl) (fun _ _ _ h => h) (Or.inl ⟨by rfl, ?_⟩) h0 ?_
  rotate_left
  · intro w hSw; (try dsimp only at hSw); go_simp; with_reducible rfl
  try simp only [Act.put, List.setIfInBounds_toArray, List.set_cons_zero, List.set_cons_succ, List.getElem_toArray, List.getElem_cons_succ, List.getElem_cons_zero]
  refine wpAnyH_take (i := 11) (v := ?_) rfl (by kernel_rfl) (by kernel_rfl) (by kernel_rfl) (fun _ _ _ h => h) (Or.inl ⟨by rfl, ?_⟩) h0 ?_
  rotate_left
  · intro w hSw; (try dsimp only at hSw); go_simp; with_reducible rfl
  try simp only [Act.put, List.setIfInBounds_toArray, List.set_cons_zero, List.set_cons_succ, List.getElem_toArray, List.getElem_cons_succ, List.getElem_cons_zero]
  refine wpAnyH_take (i := 12) (v := ?_) rfl (by kernel_rfl) (by kernel_rfl) (by kernel_rfl) (fun _ _ _ h => h) (Or.inl ⟨by rfl, ?_⟩) h0 ?_
  rotate_left
  · intro w hSw; (try dsimp only at hSw); go_simp; with_reducible rfl
  try simp only [Act.put, List.setIfInBounds_toArray, List.set_cons_zero, List.set_cons_succ, List.getElem_toArray, List.getElem_cons_succ, List.getElem_cons_zero]
  refine wpAnyH_take (i := 13) (v := ?_) rfl (by kernel_rfl) (by kernel_rfl) (by kernel_rfl) (fun _ _ _ h => h) (Or.inl ⟨by rfl, ?_⟩) h0 ?_
  rotate_left
  · intro w hSw; (try dsimp only at hSw); go_simp; with_reducible rfl
  try simp only [Act.put, List.setIfInBounds_toArray, List.set_cons_zero, List.set_cons_succ, List.getElem_toArray, List.getElem_cons_succ, List.getElem_cons_zero]
  refine wpAnyH_ready (rs := [14]) (by kernel_rfl) (by simp) ?_
  refine AllReadyH.cons rfl (fun K hK => ?_) AllReadyH.nil
  go_simp
  refine hK.out _ _ (On.alloc h0 _) (fun h1 => ?_)
  clear hK K
  try simp only [Act.put, List.setIfInBounds_toArray, List.set_cons_zero, List.set_cons_succ, List.getElem_toArray, List.getElem_cons_succ, List.getElem_cons_zero]
  refine wpAnyH_done (by kernel_rfl) ?_ _
  show wpList _ _ _ _ _ _
  clear n17 n18 n19 k0
  go_wp2_with fail
  generalize hU : (World.alloc V (.cells #[.int .i64 (i : Int), .int .i64 x.side, .int .i64 (n : Int), .int .i64 0, .int .i64 0, .int .i64 x.w, .int .i64 x.h] 67)).drew = U
  have HFB := Lib.hid (show Box U V.heap.size (encFl ⟨(i : Int), x.side, (n : Int), 0, 0, x.w, x.h⟩) by rw [← hU]; exact (Box.new V (encFl ⟨(i : Int), x.side, (n : Int), 0, 0, x.w, x.h⟩) 67).drew)
  have HOU := Lib.hid (show On V U by rw [← hU]; exact (On.alloc (On.refl V) (.cells #[.int .i64 (i : Int), .int .i64 x.side, .int .i64 (n : Int), .int .i64 0, .int .i64 0, .int .i64 x.w, .int .i64 x.h] 67)).drew)
  clear hU h0 h1
  have HTU := Lib.hid (HTV.out.below HOU.out)
  have HOUw := Lib.hid (below_then HOV.out HOU.out)
  have HFU := Lib.hid (HFV.out.same (FrW.of_below (k := w1.heap.size) (r := (Value.slice A n c).ownBlock) HOU.out))
  clear HTV HFV HOV HOU
  have HAC := Lib.hid (fun (W' : World) (hW : On U W') => HAC.out W' (below_then HOUw.out hW))
  have HPU := Lib.hid (fun (W' : World) (hW : On U W') => HPU.out W' (below_then HOUw.out hW))
  obtain ⟨⟨_, k1, _, _, _, k5, k6⟩, _, _⟩ := HTU.out.cells
  have k1 := On.cell k1
  have k5 := On.cell k5
  have k6 := On.cell k6
  have hf7 := HFB.out.of7.1
  obtain ⟨e0, e1, e2, e3, e4, e5, e6⟩ := hf7
  simp only at e0 e1 e2 e3 e4 e5 e6
  have e0 := On.cell e0
  have e1 := On.cell e1
  have e2 := On.cell e2
  have e3 := On.cell e3
  have e4 := On.cell e4
  have e5 := On.cell e5
  have e6 := On.cell e6
  refine wp_region_held_tail 19 (S := fun W' => On U W') (by kernel_rfl) (by kernel_rfl) rfl (On.refl _).drew (fun h0 => ?_)
  simp only [headOf, List.take_succ_cons, List.take_zero, List.getElem_toArray, List.getElem_cons_succ, List.getElem_cons_zero]
  refine wpAnyH_take (i := 0) (v := ?_) rfl (by kernel_rfl) (by kernel_rfl) (by kernel_rfl) (fun _ _ _ h => h) (Or.inl ⟨by rfl, ?_⟩) h0 ?_
  rotate_left
  · intro w hSw; (try dsimp only at hSw); go_simp; with_reducible rfl
  try simp only [Act.put, List.setIfInBounds_toArray, List.set_cons_zero, List.set_cons_succ, List.getElem_toArray, List.getElem_cons_succ, List.getElem_cons_zero]
  refine wpAnyH_take (i := 1) (v := ?_) rfl (by kernel_rfl) (by kernel_rfl) (by kernel_rfl) (fun _ _ _ h => h) (Or.inl ⟨by rfl, ?_⟩) h0 ?_
  rotate_left
  · intro w hSw; (try dsimp only at hSw); go_simp; with_reducible rfl
  try simp only [Act.put, List.setIfInBounds_toArray, List.set_cons_zero, List.set_cons_succ, List.getElem_toArray, List.getElem_cons_succ, List.getElem_cons_zero]
  refine wpAnyH_take (i := 2) (v := ?_) rfl (by kernel_rfl) (by kernel_rfl) (by kernel_rfl) (fun _ _ _ h => h) (Or.inl ⟨by rfl, ?_⟩) h0 ?_
  rotate_left
  · intro w hSw; (try dsimp only at hSw); go_simp; with_reducible rfl
  try simp only [Act.put, List.setIfInBounds_toArray, List.set_cons_zero, List.set_cons_succ, List.getElem_toArray, List.getElem_cons_succ, List.getElem_cons_zero]
  refine wpAnyH_take (i := 3) (v := ?_) rfl (by kernel_rfl) (by kernel_rfl) (by kernel_rfl) (fun _ _ _ h => h) (Or.inl ⟨by rfl, ?_⟩) h0 ?_
  rotate_left
  · intro w hSw; (try dsimp only at hSw); go_simp; with_reducible rfl
  try simp only [Act.put, List.setIfInBounds_toArray, List.set_cons_zero, List.set_cons_succ, List.getElem_toArray, List.getElem_cons_succ, List.getElem_cons_zero]
  refine wpAnyH_take (i := 4) (v := ?_) rfl (by kernel_rfl) (by kernel_rfl) (by kernel_rfl) (fun _ _ _ h => h) (Or.inl ⟨by rfl, ?_⟩) h0 ?_
  rotate_left
  · intro w hSw; (try dsimp only at hSw); go_simp; with_reducible rfl
  try simp only [Act.put, List.setIfInBounds_toArray, List.set_cons_zero, List.set_cons_succ, List.getElem_toArray, List.getElem_cons_succ, List.getElem_cons_zero]
  refine wpAnyH_take (i := 5) (v := ?_) rfl (by kernel_rfl) (by kernel_rfl) (by kernel_rfl) (fun _ _ _ h => h) (Or.inl ⟨by rfl, ?_⟩) h0 ?_
  rotate_left
  · intro w hSw; (try dsimp only at hSw); go_simp; with_reducible rfl
  try simp only [Act.put, List.setIfInBounds_toArray, List.set_cons_zero, List.set_cons_succ, List.getElem_toArray, List.getElem_cons_succ, List.getElem_cons_zero]
  refine wpAnyH_take (i := 6) (v := ?_) rfl (by kernel_rfl) (by kernel_rfl) (by kernel_rfl) (fun _ _ _ h => h) (Or.inl ⟨by rfl, ?_⟩) h0 ?_
  rotate_left
  · intro w hSw; (try dsimp only at hSw); go_simp; with_reducible rfl
  try simp only [Act.put, List.setIfInBounds_toArray, List.set_cons_zero, List.set_cons_succ, List.getElem_toArray, List.getElem_cons_succ, List.getElem_cons_zero]
  refine wpAnyH_take (i := 7) (v := ?_) rfl (by kernel_rfl) (by kernel_rfl) (by kernel_rfl) (fun _ _ _ h => h) (Or.inl ⟨by rfl, ?_⟩) h0 ?_
  rotate_left
  · intro w hSw; (try dsimp only at hSw); go_simp; with_reducible rfl
  try simp only [Act.put, List.setIfInBounds_toArray, List.set_cons_zero, List.set_cons_succ, List.getElem_toArray, List.getElem_cons_succ, List.getElem_cons_zero]
  refine wpAnyH_take (i := 8) (v := ?_) rfl (by kernel_rfl) (by kernel_rfl) (by kernel_rfl) (fun _ _ _ h => h) (Or.inl ⟨by rfl, ?_⟩) h0 ?_
  rotate_left
  · intro w hSw; (try dsimp only at hSw); go_simp; with_reducible rfl
  try simp only [Act.put, List.setIfInBounds_toArray, List.set_cons_zero, List.set_cons_succ, List.getElem_toArray, List.getElem_cons_succ, List.getElem_cons_zero]
  refine wpAnyH_take (i := 9) (v := ?_) rfl (by kernel_rfl) (by kernel_rfl) (by kernel_rfl) (fun _ _ _ h => h) (Or.inl ⟨by rfl, ?_⟩) h0 ?_
  rotate_left
  · intro w hSw; (try dsimp only at hSw); go_simp; with_reducible rfl
  try simp only [Act.put, List.setIfInBounds_toArray, List.set_cons_zero, List.set_cons_succ, List.getElem_toArray, List.getElem_cons_succ, List.getElem_cons_zero]
  refine wpAnyH_take (i := 10) (v := ?_) rfl (by kernel_rfl) (by kernel_rfl) (by kernel_rfl) (fun _ _ _ h => h) (Or.inl ⟨by rfl, ?_⟩) h0 ?_
  rotate_left
  · intro w hSw; (try dsimp only at hSw); go_simp; with_reducible rfl
  try simp only [Act.put, List.setIfInBounds_toArray, List.set_cons_zero, List.set_cons_succ, List.getElem_toArray, List.getElem_cons_succ, List.getElem_cons_zero]
  refine wpAnyH_take (i := 12) (v := ?_) rfl (by kernel_rfl) (by kernel_rfl) (by kernel_rfl) (fun _ _ _ h => h) (Or.inl ⟨by rfl, ?_⟩) h0 ?_
  rotate_left
  · intro w hSw; (try dsimp only at hSw); go_simp; with_reducible rfl
  try simp only [Act.put, List.setIfInBounds_toArray, List.set_cons_zero, List.set_cons_succ, List.getElem_toArray, List.getElem_cons_succ, List.getElem_cons_zero]
  refine wpAnyH_take (i := 13) (v := ?_) rfl (by kernel_rfl) (by kernel_rfl) (by kernel_rfl) (fun _ _ _ h => h) (Or.inl ⟨by rfl, ?_⟩) h0 ?_
  rotate_left
  · intro w hSw; (try dsimp only at hSw); go_simp; with_reducible rfl
  try simp only [Act.put, List.setIfInBounds_toArray, List.set_cons_zero, List.set_cons_succ, List.getElem_toArray, List.getElem_cons_succ, List.getElem_cons_zero]
  refine wpAnyH_ready (rs := [11]) (by kernel_rfl) (by simp) ?_
  refine AllReadyH.cons rfl (fun K hK => ?_) AllReadyH.nil
  go_simp
  refine (at13_to HNP.out.1 HNP.out.2.1).mono ?_
  rintro e wA ⟨rfl, hb⟩
  refine hK.out _ _ (On.step h0 hb) (fun h1 => ?_)
  clear hK K hb
  try simp only [Act.put, List.setIfInBounds_toArray, List.set_cons_zero, List.set_cons_succ, List.getElem_toArray, List.getElem_cons_succ, List.getElem_cons_zero]
  refine wpAnyH_ready (rs := [14]) (by kernel_rfl) (by simp) ?_
  refine AllReadyH.cons rfl (fun K hK => ?_) AllReadyH.nil
  go_simp
  refine (HAC.out _ h1).mono ?_
  rintro e wB ⟨rfl, hb⟩
  refine hK.out _ _ (On.step h1 hb) (fun h2 => ?_)
  clear hK K hb
  try simp only [Act.put, List.setIfInBounds_toArray, List.set_cons_zero, List.set_cons_succ, List.getElem_toArray, List.getElem_cons_succ, List.getElem_cons_zero]
  refine wpAnyH_ready (rs := [15]) (by kernel_rfl) (by simp) ?_
  refine AllReadyH.cons rfl (fun K hK => ?_) AllReadyH.nil
  go_simp
  refine (HPU.out _ h2).mono ?_
  rintro e wC ⟨A5, n5, c5, rfl, hn5, hown, hb⟩
  have HTB := Lib.hid (HTU.out.below h2)
  have HFB2 := Lib.hid (HFU.out.same (FrW.of_below (k := w1.heap.size) (r := (Value.slice A n c).ownBlock) h2))
  have HTF := Lib.hid (HTB.out.fl hn5 hown hb)
  have HTC := Lib.hid (HTB.out.below hb)
  have HFC := Lib.hid (HFB2.out.same (FrW.of_below (k := w1.heap.size) (r := (Value.slice A n c).ownBlock) hb))
  clear hn5 hown
  refine hK.out _ _ (On.step h2 hb) (fun h3 => ?_)
  clear hK K hb
  try simp only [Act.put, List.setIfInBounds_toArray, List.set_cons_zero, List.set_cons_succ, List.getElem_toArray, List.getElem_cons_succ, List.getElem_cons_zero]
  refine wpAnyH_take (i := 16) (v := ?_) rfl (by kernel_rfl) (by kernel_rfl) (by kernel_rfl) (fun _ _ _ h => h) (Or.inl ⟨by rfl, ?_⟩) h3 ?_
  rotate_left
  · intro w hSw; (try dsimp only at hSw); go_simp; with_reducible rfl
  try simp only [Act.put, List.setIfInBounds_toArray, List.set_cons_zero, List.set_cons_succ, List.getElem_toArray, List.getElem_cons_succ, List.getElem_cons_zero]
  refine wpAnyH_take (i := 17) (v := ?_) rfl (by kernel_rfl) (by kernel_rfl) (by kernel_rfl) (fun _ _ _ h => h) (Or.inl ⟨by rfl, ?_⟩) h3 ?_
  rotate_left
  · intro w hSw; (try dsimp only at hSw); go_simp; with_reducible rfl
  try simp only [Act.put, List.setIfInBounds_toArray, List.set_cons_zero, List.set_cons_succ, List.getElem_toArray, List.getElem_cons_succ, List.getElem_cons_zero]
  refine wpAnyH_take (i := 18) (v := ?_) rfl (by kernel_rfl) (by kernel_rfl) (by kernel_rfl) (fun _ _ _ h => h) (Or.inl ⟨by rfl, ?_⟩) h3 ?_
  rotate_left
  · intro w hSw; (try dsimp only at hSw); go_simp; with_reducible rfl
  try simp only [Act.put, List.setIfInBounds_toArray, List.set_cons_zero, List.set_cons_succ, List.getElem_toArray, List.getElem_cons_succ, List.getElem_cons_zero]
  refine wpAnyH_done (by kernel_rfl) ?_ _
  show wpList _ _ _ _ _ _
  obtain ⟨⟨_, k1, _, _, _, _, _⟩, ⟨_, f1, _, _, _⟩, kl⟩ := HTC.out.cells
  clear h0 h1 h2 h3 k5 k6 e0 e1 e2 e3 e4 e5 e6
  go_wp2_with fail
  go_end0
  refine ⟨rfl, A, n, c, A5, n5, c5, ?_, HFC.out.same (FrW.set _ _ _ _ _), NewRow.refl _ _⟩
  rw [HE.out]
  exact HTF.out
end
end Go.Proofs.YtipmdhfinlkceaaGreat
