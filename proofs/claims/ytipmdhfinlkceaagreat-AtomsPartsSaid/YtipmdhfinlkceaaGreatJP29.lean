import Derived.Test.YtipmdhfinlkceaaGreatJP24
import Derived.Test.YtipmdhfinlkceaaGreatJP01
/- FlowText. -/
set_option linter.unusedVariables false
set_option linter.unusedSimpArgs false
namespace Go.Proofs.YtipmdhfinlkceaaGreat
open Go.RowKit
section
variable {L : List Nd} {w1 : World} {An Ar : Option Addr} {nn cn nr cr : Nat} {w : World} {s : Gs} {A A2 : Option Addr} {n c m c2 : Nat}
theorem rows_frw {α : Type} {k q : Nat} {enc : α → List Value} {r : Option Nat} {w w' : World} {A : Option Addr} {n : Nat} {l : List α} (h : Rows q enc w A n l) (hf : FrW k r w w') (h1 : ∀ a, A = some a → a.block ≠ k ∧ some a.block ≠ r) : Rows q enc w' A n l :=
  ⟨h.1, h.2.1, fun hn => by
    obtain ⟨b, off, e, hl, hc⟩ := h.2.2 hn
    have hb := h1 _ e
    exact ⟨b, off, e, Nat.lt_of_lt_of_le hl hf.size, fun i x hx j v hv => (World.cell?_of_block (w := w) (a := ⟨b, off + i * q + j, none⟩) (hf.block b hl hb.1 hb.2)).trans (hc i x hx j v hv)⟩⟩
set_option maxHeartbeats 8000000 in
set_option maxRecDepth 100000 in
theorem wtext14_to {i : Nat} {x : Nd} {rx u : Int} (hk : x.kind = 2) (hxf : x.fits) (hS : Sees w1 An nn L) (hx : L[i]? = some x) {zs : List (Int × Int)} (hR : Rows 2 encRm w1 Ar nr zs) (hz : zs[i]? = some (rx, u)) (hi : i < nr) (b0 : 0 ≤ rx) (b1 : rx ≤ maxX) (b2 : 1 ≤ u) (b3 : u ≤ maxX) {H : Int} (hG : GsOk H s) (hH : H ≤ maxN) (hn : n + 2000 ≤ 10000000) (h : Wk w1 An nn cn Ar nr cr w s A n c A2 m c2) (hw60 : x.words.length ≤ 2000) (hhs : H + x.line * (x.words.length : Int) ≤ maxN) :
    Calls Tryz.prog 40 #[.pointer (some ⟨w1.heap.size, 0, none⟩), .int .i64 (i : Int)] w fun e w' => e = .returned (.tuple #[]) ∧ WkOut w1 An nn cn Ar nr cr w A n c (textS (rx, u) i x s) w' := by
  have hlen : L.length = nn := hS.len
  have hin : i < nn := by have := (List.getElem?_eq_some_iff.1 hx).1; omega
  obtain ⟨bn, on_, mm, x', rfl, hbn, hx', hrg, hsh⟩ := (hS.below h.on).at_ hin
  obtain rfl : x = x' := by rw [hx] at hx'; injection hx'
  have hpl : s.pen.1 + s.pen.2 ≤ H := hG.p2
  have hp0 := hG.p0
  have hp1 := hG.p1
  have hin2 : (i : Int) < (nn : Int) := by omega
  have HNI := Lib.hid (show NearI rx ∧ NearI (rx + u) ∧ IntKind.i64.wrap (rx + u) = rx + u from ⟨by unfold NearI farB maxX at *; omega, by unfold NearI farB maxX at *; omega, IntWalk.i64_in _ (by unfold maxX at *; omega)⟩)
  have HNP := Lib.hid (show NearI s.pen.1 ∧ NearI s.pen.2 ∧ NearI (s.pen.1 + s.pen.2) from ⟨by unfold NearI farB maxN at *; omega, by unfold NearI farB maxN at *; omega, by unfold NearI farB maxN at *; omega⟩)
  have HFN := Lib.hid (hG.nears hH)
  obtain ⟨hl2, hsp2, hws2⟩ : (1 ≤ x.line ∧ x.line ≤ maxN) ∧ (0 ≤ x.space ∧ x.space ≤ maxN) ∧ ∀ z ∈ x.words, 1 ≤ z ∧ z ≤ maxN := by
    rcases hxf with ⟨h1, _⟩ | ⟨_, _, h2, h3, _, h4, _⟩ | ⟨h1, _⟩ | ⟨h1, _⟩
    · omega
    · exact ⟨h2, h3, h4⟩
    · omega
    · omega
  have HLI := Lib.hid (show 0 ≤ x.line ∧ x.line ≤ 1099511627776 from ⟨by omega, by unfold maxN at *; omega⟩)
  have HNL := Lib.hid (show NearI x.line by unfold NearI farB maxN at *; omega)
  obtain ⟨ls, hls⟩ : ∃ ls, lnsL s.fls x.words x.space x.line rx (rx + u) 0 (s.pen.1 + s.pen.2) = ls := ⟨_, rfl⟩
  have HLM := Lib.hid (show ls.length ≤ 2000 by rw [← hls]; exact Nat.le_trans (lnsL_most _) hw60)
  have HLB := Lib.hid (show ∀ z ∈ ls, NearI z.y by
    intro z hz
    rw [← hls] at hz
    have := lns_bd (l := s.fls) (ws := x.words) (sp := x.space) (a := rx) (b := rx + u) HLI.out.1 _ 0 (s.pen.1 + s.pen.2) H hG.ends hpl z hz
    have h2 := mul_up (show (lnsF s.fls x.words x.space x.line rx (rx + u) (x.words.length - 0) 0 (s.pen.1 + s.pen.2)).length ≤ x.words.length from lnsL_most (s.pen.1 + s.pen.2)) HLI.out.1
    unfold NearI farB maxN at *
    omega)
  have HN9 := Lib.hid (show Near9 x.words x.space from ⟨⟨by omega, by unfold farN maxN at *; omega⟩, fun z hz => ⟨by have := (hws2 z hz).1; omega, by have := (hws2 z hz).2; unfold farN maxN at *; omega⟩⟩)
  have hmn : mm.n ≤ 10000 := by have := hsh.2.1; omega
  have HE := Lib.hid (show textS (rx, u) i x s = { s with ams := s.ams ++ ls.map (lineAm i x.line), pen := penLns x.line s.pen ls } by
    unfold textS Gs.place
    simp only
    rw [hls])
  have HAC := Lib.hid (fun (V : World) (hV : On w V) => across14_to hR hi hz HNI.out.2.2 (h.below hV))
  have HTX := Lib.hid (fun (V : World) (hV : On w V) => stext_to (c := c2) (c2 := mm.c) hls HFN.out HNP.out.2.2 HLI.out.1 HLI.out.2 hG.ends hpl (by rw [Int.mul_comm]; unfold maxN at *; omega) HNI.out.1 HNI.out.2.1 HN9.out hmn (ownsRow_rows encFl_len (by decide) (h.below hV).gs.fls) (hsh.2.below (B := w.heap.size) hV rfl))
  have HT := Lib.hid h
  have HSH := Lib.hid hsh
  have HRG := Lib.hid hrg
  have HNA := Lib.hid h.gs.na
  clear hx hx' hrg hsh hS hR hz hG hH h hls hl2 hsp2 hws2 hxf hpl hp0 hp1 hk hhs hw60 hmn
  obtain ⟨⟨_, _, _, k3, _, _, _⟩, _, _⟩ := HT.out.cells
  go_enter Tryz.func40, Tryz.ntmps40
  go_wp2_with ((with_reducible refine stop_load 40 (.tmp 12) ?_ ?_); exact rfl)
  refine Stop.intro ?_
  refine wpList_load_mid rfl 40 (.tmp 12) rfl bn (on_ + i * 20) rfl (encM mm) _ HRG.out Tryz.underlying40 rfl (by kernel_rfl) ?_
  clear k3
  go_wp2_with ((with_reducible refine stop_store 40 (.tmp 4) (.tmp 13) ?_ ?_); exact rfl)
  refine Stop.intro ?_
  refine wpList_store_row rfl 40 (.tmp 4) (.tmp 13) rfl w.heap.size rfl 40 #[.int .i64 0, .int .i64 0, .int .i64 0, .int .i64 0, .int .i64 0, .int .i64 0, .int .i64 0, .int .i64 0, .int .i64 0, .int .i64 0, .int .i64 0, .int .i64 0, .int .i64 0, .int .i64 0, .int .i64 0, .int .i64 0, .slice none 0 0, .int .i64 0, .int .i64 0, .int .i64 0] (encM mm).toArray rfl (Blk.new w 40 [.int .i64 0, .int .i64 0, .int .i64 0, .int .i64 0, .int .i64 0, .int .i64 0, .int .i64 0, .int .i64 0, .int .i64 0, .int .i64 0, .int .i64 0, .int .i64 0, .int .i64 0, .int .i64 0, .int .i64 0, .int .i64 0, .slice none 0 0, .int .i64 0, .int .i64 0, .int .i64 0] _ rfl _ rfl) (by kernel_rfl) rfl (encM_alls mm) ?_
  intro V hV
  have hbV : On w V := by rw [hV]; exact below_setRow ((Below.refl _ _).alloc (Nat.le_refl _) _) (Nat.le_refl _) _
  have HK := Lib.hid (show Box V w.heap.size (encM mm) by rw [hV]; exact (Blk.row (Blk.new w 40 [.int .i64 0, .int .i64 0, .int .i64 0, .int .i64 0, .int .i64 0, .int .i64 0, .int .i64 0, .int .i64 0, .int .i64 0, .int .i64 0, .int .i64 0, .int .i64 0, .int .i64 0, .int .i64 0, .int .i64 0, .int .i64 0, .slice none 0 0, .int .i64 0, .int .i64 0, .int .i64 0] _ rfl _ rfl) (encM mm) _ rfl).box)
  have HTV := Lib.hid (HT.out.below hbV)
  have HFV := Lib.hid (FrW.of_below (k := w1.heap.size) (r := (Value.slice A n c).ownBlock) hbV)
  have hwV : w.heap.size < V.heap.size := HK.out.1
  have HRL := Lib.hid (owns_block_lt HT.out.gs.ams)
  have hkw : w1.heap.size < w.heap.size := HT.out.box.1
  have HOV := Lib.hid hbV
  clear hV hbV HRG HT
  obtain ⟨_, ⟨n14, n15, n16, _, _, _⟩, _⟩ := nd_see HSH.out HK.out
  have n14 := On.cell n14
  have n15 := On.cell n15
  have n16 := On.cell n16
  obtain ⟨⟨_, k1, _, _, _, k5, k6⟩, _, _⟩ := HTV.out.cells
  have k1 := On.cell k1
  have k5 := On.cell k5
  have k6 := On.cell k6
  have HAC := Lib.hid (fun (W' : World) (hW : On V W') => HAC.out W' (below_then HOV.out hW))
  have HTX := Lib.hid (fun (W' : World) (hW : On V W') => HTX.out W' (below_then HOV.out hW))
  go_wp2_with fail
  refine wp_region_held_drew (S := fun W' => On V W') (by kernel_rfl) (On.refl _).drew (fun h0 => ?_)
  show wpAnyH _ _ _ _ _ 22 (Array.replicate 22 false) _ _
  refine wpAnyH_take (i := 0) (v := ?_) rfl (by kernel_rfl) (by kernel_rfl) (by kernel_rfl) (fun _ _ _ h => h) (Or.inl ⟨by rfl, ?_⟩) h0 ?_
  rotate_left
  · intro w hSw; (try dsimp only at hSw); go_simp; with_reducible rfl
  try simp only [Act.put, List.setIfInBounds_toArray, List.set_cons_zero, List.set_cons_succ, List.getElem_toArray, List.getElem_cons_succ, List.getElem_cons_zero]
  refine wpAnyH_take (i := 1) (v := ?_) rfl (by kernel_rfl) (by kernel_rfl) (by kernel_rfl) (fun _ _ _ h => h) (Or.inl ⟨by rfl, ?_⟩) h0 ?_
  rotate_left
  · intro w hSw; (try dsimp only at hSw); go_simp; with_reducible rfl
  try simp only [Act.put, List.setIfInBounds_toArray, List.set_cons_zero, List.set_cons_succ, List.getElem_toArray, List.getElem_cons_succ, List.getElem_cons_zero]
  refine wpAnyH_take (i := 2) (v := ?_) rfl (by kernel_rfl) (by kernel_rfl) (by kernel_rfl) (fun _ _ _ h => h) (Or.inl ⟨by rfl, ?_⟩) h0 ?_
  rotate_left
  · intro w hSw; (try dsimp only at hSw); go_simp; with_reducible rfl
  try simp only [Act.put, List.setIfInBounds_toArray, List.set_cons_zero, List.set_cons_succ, List.getElem_toArray, List.getElem_cons_succ, List.getElem_cons_zero]
  refine wpAnyH_take (i := 3) (v := ?_) rfl (by kernel_rfl) (by kernel_rfl) (by kernel_rfl) (fun _ _ _ h => h) (Or.inl ⟨by rfl, ?_⟩) h0 ?_
  rotate_left
  · intro w hSw; (try dsimp only at hSw); go_simp; with_reducible rfl
  try simp only [Act.put, List.setIfInBounds_toArray, List.set_cons_zero, List.set_cons_succ, List.getElem_toArray, List.getElem_cons_succ, List.getElem_cons_zero]
  refine wpAnyH_take (i := 4) (v := ?_) rfl (by kernel_rfl) (by kernel_rfl) (by kernel_rfl) (fun _ _ _ h => h) (Or.inl ⟨by rfl, ?_⟩) h0 ?_
  rotate_left
  · intro w hSw; (try dsimp only at hSw); go_simp; with_reducible rfl
  try simp only [Act.put, List.setIfInBounds_toArray, List.set_cons_zero, List.set_cons_succ, List.getElem_toArray, List.getElem_cons_succ, List.getElem_cons_zero]
  refine wpAnyH_take (i := 5) (v := ?_) rfl (by kernel_rfl) (by kernel_rfl) (by kernel_rfl) (fun _ _ _ h => h) (Or.inl ⟨by rfl, ?_⟩) h0 ?_
  rotate_left
  · intro w hSw; (try dsimp only at hSw); go_simp; with_reducible rfl
  try simp only [Act.put, List.setIfInBounds_toArray, List.set_cons_zero, List.set_cons_succ, List.getElem_toArray, List.getElem_cons_succ, List.getElem_cons_zero]
  refine wpAnyH_take (i := 6) (v := ?_) rfl (by kernel_rfl) (by kernel_rfl) (by kernel_rfl) (fun _ _ _ h => h) (Or.inl ⟨by rfl, ?_⟩) h0 ?_
  rotate_left
  · intro w hSw; (try dsimp only at hSw); go_simp; with_reducible rfl
  try simp only [Act.put, List.setIfInBounds_toArray, List.set_cons_zero, List.set_cons_succ, List.getElem_toArray, List.getElem_cons_succ, List.getElem_cons_zero]
  refine wpAnyH_take (i := 7) (v := ?_) rfl (by kernel_rfl) (by kernel_rfl) (by kernel_rfl) (fun _ _ _ h => h) (Or.inl ⟨by rfl, ?_⟩) h0 ?_
  rotate_left
  · intro w hSw; (try dsimp only at hSw); go_simp; with_reducible rfl
  try simp only [Act.put, List.setIfInBounds_toArray, List.set_cons_zero, List.set_cons_succ, List.getElem_toArray, List.getElem_cons_succ, List.getElem_cons_zero]
  refine wpAnyH_take (i := 8) (v := ?_) rfl (by kernel_rfl) (by kernel_rfl) (by kernel_rfl) (fun _ _ _ h => h) (Or.inl ⟨by rfl, ?_⟩) h0 ?_
  rotate_left
  · intro w hSw; (try dsimp only at hSw); go_simp; with_reducible rfl
  try simp only [Act.put, List.setIfInBounds_toArray, List.set_cons_zero, List.set_cons_succ, List.getElem_toArray, List.getElem_cons_succ, List.getElem_cons_zero]
  refine wpAnyH_take (i := 9) (v := ?_) rfl (by kernel_rfl) (by kernel_rfl) (by kernel_rfl) (fun _ _ _ h => h) (Or.inl ⟨by rfl, ?_⟩) h0 ?_
  rotate_left
  · intro w hSw; (try dsimp only at hSw); go_simp; with_reducible rfl
  try simp only [Act.put, List.setIfInBounds_toArray, List.set_cons_zero, List.set_cons_succ, List.getElem_toArray, List.getElem_cons_succ, List.getElem_cons_zero]
  refine wpAnyH_take (i := 10) (v := ?_) rfl (by kernel_rfl) (by kernel_rfl) (by kernel_rfl) (fun _ _ _ h => h) (Or.inl ⟨by rfl, ?_⟩) h0 ?_
  rotate_left
  · intro w hSw; (try dsimp only at hSw); go_simp; with_reducible rfl
  try simp only [Act.put, List.setIfInBounds_toArray, List.set_cons_zero, List.set_cons_succ, List.getElem_toArray, List.getElem_cons_succ, List.getElem_cons_zero]
  refine wpAnyH_take (i := 11) (v := ?_) rfl (by kernel_rfl) (by kernel_rfl) (by kernel_rfl) (fun _ _ _ h => h) (Or.inl ⟨by rfl, ?_⟩) h0 ?_
  rotate_left
  · intro w hSw; (try dsimp only at hSw); go_simp; with_reducible rfl
  try simp only [Act.put, List.setIfInBounds_toArray, List.set_cons_zero, List.set_cons_succ, List.getElem_toArray, List.getElem_cons_succ, List.getElem_cons_zero]
  refine wpAnyH_take (i := 12) (v := ?_) rfl (by kernel_rfl) (by kernel_rfl) (by kernel_rfl) (fun _ _ _ h => h) (Or.inl ⟨by rfl, ?_⟩) h0 ?_
  rotate_left
  · intro w hSw; (try dsimp only at hSw); go_simp; with_reducible rfl
  try simp only [Act.put, List.setIfInBounds_toArray, List.set_cons_zero, List.set_cons_succ, List.getElem_toArray, List.getElem_cons_succ, List.getElem_cons_zero]
  refine wpAnyH_take (i := 13) (v := ?_) rfl (by kernel_rfl) (by kernel_rfl) (by kernel_rfl) (fun _ _ _ h => h) (Or.inl ⟨by rfl, ?_⟩) h0 ?_
  rotate_left
  · intro w hSw; (try dsimp only at hSw); go_simp; with_reducible rfl
  try simp only [Act.put, List.setIfInBounds_toArray, List.set_cons_zero, List.set_cons_succ, List.getElem_toArray, List.getElem_cons_succ, List.getElem_cons_zero]
  refine wpAnyH_take (i := 14) (v := ?_) rfl (by kernel_rfl) (by kernel_rfl) (by kernel_rfl) (fun _ _ _ h => h) (Or.inl ⟨by rfl, ?_⟩) h0 ?_
  rotate_left
  · intro w hSw; (try dsimp only at hSw); go_simp; with_reducible rfl
  try simp only [Act.put, List.setIfInBounds_toArray, List.set_cons_zero, List.set_cons_succ, List.getElem_toArray, List.getElem_cons_succ, List.getElem_cons_zero]
  refine wpAnyH_take (i := 16) (v := ?_) rfl (by kernel_rfl) (by kernel_rfl) (by kernel_rfl) (fun _ _ _ h => h) (Or.inl ⟨by rfl, ?_⟩) h0 ?_
  rotate_left
  · intro w hSw; (try dsimp only at hSw); go_simp; with_reducible rfl
  try simp only [Act.put, List.setIfInBounds_toArray, List.set_cons_zero, List.set_cons_succ, List.getElem_toArray, List.getElem_cons_succ, List.getElem_cons_zero]
  refine wpAnyH_take (i := 17) (v := ?_) rfl (by kernel_rfl) (by kernel_rfl) (by kernel_rfl) (fun _ _ _ h => h) (Or.inl ⟨by rfl, ?_⟩) h0 ?_
  rotate_left
  · intro w hSw; (try dsimp only at hSw); go_simp; with_reducible rfl
  try simp only [Act.put, List.setIfInBounds_toArray, List.set_cons_zero, List.set_cons_succ, List.getElem_toArray, List.getElem_cons_succ, List.getElem_cons_zero]
  refine wpAnyH_take (i := 21) (v := ?_) rfl (by kernel_rfl) (by kernel_rfl) (by kernel_rfl) (fun _ _ _ h => h) (Or.inl ⟨by rfl, ?_⟩) h0 ?_
  rotate_left
  · intro w hSw; (try dsimp only at hSw); go_simp; with_reducible rfl
  try simp only [Act.put, List.setIfInBounds_toArray, List.set_cons_zero, List.set_cons_succ, List.getElem_toArray, List.getElem_cons_succ, List.getElem_cons_zero]
  refine wpAnyH_ready (rs := [15]) (by kernel_rfl) (by simp) ?_
  refine AllReadyH.cons rfl (fun K hK => ?_) AllReadyH.nil
  go_simp
  refine (at13_to HNP.out.1 HNP.out.2.1).mono ?_
  rintro e wA ⟨rfl, hb⟩
  refine hK.out _ _ (On.step h0 hb) (fun h1 => ?_)
  clear hK K hb
  try simp only [Act.put, List.setIfInBounds_toArray, List.set_cons_zero, List.set_cons_succ, List.getElem_toArray, List.getElem_cons_succ, List.getElem_cons_zero]
  refine wpAnyH_ready (rs := [18]) (by kernel_rfl) (by simp) ?_
  refine AllReadyH.cons rfl (fun K hK => ?_) AllReadyH.nil
  go_simp
  refine (HAC.out _ h1).mono ?_
  rintro e wB ⟨rfl, hb⟩
  refine hK.out _ _ (On.step h1 hb) (fun h2 => ?_)
  clear hK K hb
  try simp only [Act.put, List.setIfInBounds_toArray, List.set_cons_zero, List.set_cons_succ, List.getElem_toArray, List.getElem_cons_succ, List.getElem_cons_zero]
  refine wpAnyH_ready (rs := [19]) (by kernel_rfl) (by simp) ?_
  refine AllReadyH.cons rfl (fun K hK => ?_) AllReadyH.nil
  go_simp
  refine (HTX.out _ h2).mono ?_
  rintro e wC ⟨AL, nl, cl, rfl, hnl, hown, hb⟩
  have HOC := Lib.hid (On.step h2 hb)
  have HBL := Lib.hid (show ∀ q, AL = some q → V.heap.size ≤ q.block from fun q hq => by subst hq; have h8 := owns_block hown q.block rfl; have h9 := h2.size; omega)
  have HRW := Lib.hid (ownsRow_rows encLn_len (by decide) hown)
  have HNLL := Lib.hid hnl
  clear hnl hown
  refine hK.out _ _ (On.step h2 hb) (fun h3 => ?_)
  clear hK K hb
  try simp only [Act.put, List.setIfInBounds_toArray, List.set_cons_zero, List.set_cons_succ, List.getElem_toArray, List.getElem_cons_succ, List.getElem_cons_zero]
  refine wpAnyH_take (i := 20) (v := ?_) rfl (by kernel_rfl) (by kernel_rfl) (by kernel_rfl) (fun _ _ _ h => h) (Or.inl ⟨by rfl, ?_⟩) h3 ?_
  rotate_left
  · intro w hSw; (try dsimp only at hSw); go_simp; with_reducible rfl
  try simp only [Act.put, List.setIfInBounds_toArray, List.set_cons_zero, List.set_cons_succ, List.getElem_toArray, List.getElem_cons_succ, List.getElem_cons_zero]
  refine wpAnyH_done (by kernel_rfl) ?_ _
  have hnl60 : nl ≤ 2000 := by rw [HNLL.out]; exact HLM.out
  have HTC := Lib.hid (HTV.out.below HOC.out)
  have HFC := Lib.hid (HFV.out.same (FrW.of_below (k := w1.heap.size) (r := (Value.slice A n c).ownBlock) HOC.out))
  have HKC := Lib.hid (HK.out.below HOC.out)
  have hwC : w.heap.size < wC.heap.size := HKC.out.1
  have hVC : V.heap.size ≤ wC.heap.size := HOC.out.size
  clear h0 h1 h2 h3 n14 n15 n16 k1 k5 k6 HAC HTX HTV HFV HOC HOV HK
  go_wp2_with fail
  go_loopw [6, 35] (fun s6 iv wr => ∃ j : Nat, iv = .int .i64 (j : Int) ∧ j ≤ nl ∧ Hid (WkOut w1 (some ⟨bn, on_, none⟩) nn cn Ar nr cr wC A n c { s with ams := s.ams ++ (ls.take j).map (lineAm i x.line), pen := penLns x.line s.pen (ls.take j) } wr)) (fun _ iv _ => nl - (intOf iv).toNat)
  case atStart => exact ⟨0, rfl, Nat.zero_le _, Lib.hid (by rw [List.take_zero, List.map_nil, List.append_nil]; exact WkOut.refl HTC.out)⟩
  case round =>
    obtain ⟨j, rfl, hjn, HO⟩ := hrel
    by_cases hlt : j < nl
    · have hlt2 : (j : Int) < (nl : Int) := by omega
      have hj0 : (0 : Int) ≤ (j : Int) := by omega
      obtain ⟨A', n', c', A2', m', c2', hW, hF, hN⟩ := HO.out
      have hna := hW.gs.na
      simp only [List.length_append, List.length_map, List.length_take] at hna
      have hn' : n' ≤ 10000000 := by have := HNA.out; omega
      have hr7 : ∀ r, (Value.slice A n c).ownBlock = some r → r < w.heap.size := HRL.out
      obtain ⟨b2, o2, z, rfl, hb2, hz, hc⟩ := (rows_frw HRW.out hF (fun a ha => ⟨by have := HBL.out a ha; omega, fun e => by have := HBL.out a ha; have := hr7 a.block e.symm; omega⟩)).at_ hlt
      have HZY := Lib.hid (HLB.out z (List.mem_of_getElem? hz))
      have HAM := Lib.hid (show (ls.take (j + 1)).map (lineAm i x.line) = (ls.take j).map (lineAm i x.line) ++ [lineAm i x.line z] by rw [take_one hz, List.map_append]; rfl)
      have HPN := Lib.hid (show penLns x.line s.pen (ls.take (j + 1)) = (z.y + x.line, 0) by rw [take_one hz, penLns_snoc])
      have z0 := hc 0 _ rfl
      have z1 := hc 1 _ rfl
      have z2 := hc 2 _ rfl
      have z3 := hc 3 _ rfl
      have z4 := hc 4 _ rfl
      simp only [Nat.add_zero] at z0 z1 z2 z3 z4
      have HKr := hF.box HKC.out (by omega) (fun e => by have := hr7 _ e.symm; omega)
      obtain ⟨_, ⟨n14, _, _, _, _, _⟩, nl14⟩ := nd_see HSH.out HKr
      have HWR := Lib.hid hW
      have HFR := Lib.hid hF
      have HNR := Lib.hid hN
      obtain ⟨zf, zt, zx, zy, zw⟩ := z
      simp only at z0 z1 z2 z3 z4 HZY HPN
      have HOO := HO
      clear hc hz hna hW hF hN HO
      go_wp2_with fail
      generalize hU : World.alloc wr _ = U
      have hal : Below wr.heap.size wr U := by rw [← hU]; exact (Below.refl _ _).alloc (Nat.le_refl _) _
      clear hU
      have HWU := Lib.hid (HWR.out.below hal)
      have HFU := Lib.hid (HFR.out.same (FrW.of_below (k := w1.heap.size) (r := (Value.slice A n c).ownBlock) hal))
      clear HWR HFR hal n14 z0 z1 z2 z3 z4
      refine (wput14_to HZY.out HNL.out hn' HWU.out).mono ?_
      rintro e w8 ⟨rfl, h8⟩
      have H8 := Lib.hid (show WkOut w1 (some ⟨bn, on_, none⟩) nn cn Ar nr cr wC A n c { s with ams := s.ams ++ (ls.take (j + 1)).map (lineAm i x.line), pen := penLns x.line s.pen (ls.take (j + 1)) } w8 by rw [HAM.out, HPN.out, ← List.append_assoc]; exact WkOut.go HFU.out HNR.out h8)
      clear h8 HWU HFU HNR
      have hwj : IntKind.i64.wrap ((j : Int) + 1) = (j : Int) + 1 := IntWalk.i64_in _ (by omega)
      go_wp2_with fail
      go_roundw
      case rel => exact ⟨j + 1, by go_num, by omega, H8⟩
      case measure => simp [intOf] <;> omega
    · have hje : j = nl := by omega
      subst hje
      have hge : (j : Int) ≤ (j : Int) := Int.le_refl _
      have HD := Lib.hid (show WkOut w1 (some ⟨bn, on_, none⟩) nn cn Ar nr cr wC A n c (textS (rx, u) i x s) wr by have h9 := HO.out; rw [List.take_of_length_le (by rw [HNLL.out]; exact Nat.le_refl _)] at h9; rw [HE.out]; exact h9)
      clear HO
      go_wp2_with fail
      go_end0
      exact ⟨rfl, WkOut.go HFC.out (NewRow.refl _ _) HD.out⟩
end
end Go.Proofs.YtipmdhfinlkceaaGreat
