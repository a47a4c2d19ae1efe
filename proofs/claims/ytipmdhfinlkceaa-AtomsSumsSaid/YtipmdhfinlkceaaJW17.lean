import Derived.Test.YtipmdhfinlkceaaJW16
/- FlowRef. -/
set_option linter.unusedVariables false
set_option linter.unusedSimpArgs false
namespace Go.Proofs.Ytipmdhfinlkceaa
open Go.RowKit
theorem atom_info : (Try.prog.info? 32).map (fun i => (i.zero, i.size, i.bytes)) = some (some (.agg #[.int .i64 0, .int .i64 0, .int .i64 0, .int .i64 0, .int .i64 0, .int .i64 0, .int .i64 0, .int .i64 0]), 8, 64) := by kernel_rfl
theorem cells_am (w : World) (t : TypeId) (x0 x1 x2 x3 x4 x5 x6 x7 : Int) (k : Nat) (hk : k = w.heap.size) : Cells (w.alloc (.cells #[.int .i64 x0, .int .i64 x1, .int .i64 x2, .int .i64 x3, .int .i64 x4, .int .i64 x5, .int .i64 x6, .int .i64 x7] t)) (some ⟨k, 0, none⟩) 1 8 (encAm ⟨x0, x1, x2, x3, x4, x5, x6, x7⟩) := by
  subst hk
  exact ⟨rfl, by decide, fun _ => ⟨w.heap.size, 0, rfl, by simp, fun j u hu => by
    have := (Box.new w (encAm ⟨x0, x1, x2, x3, x4, x5, x6, x7⟩) t).2.2 j u hu
    rw [Nat.zero_add]; exact this⟩⟩
theorem zero_of {w : World} {k : Nat} (hX : Box w k zero14) : (w.cell? ⟨k, 0, none⟩ = some (.slice none 0 0) ∧ w.cell? ⟨k, 1, none⟩ = some (.slice none 0 0) ∧ w.cell? ⟨k, 2, none⟩ = some (.int .i64 0) ∧ w.cell? ⟨k, 3, none⟩ = some (.int .i64 0) ∧ w.cell? ⟨k, 4, none⟩ = some (.int .i64 0)) ∧
    (w.frozen? ⟨k, 0, none⟩ = false ∧ w.frozen? ⟨k, 1, none⟩ = false ∧ w.frozen? ⟨k, 2, none⟩ = false ∧ w.frozen? ⟨k, 3, none⟩ = false ∧ w.frozen? ⟨k, 4, none⟩ = false) ∧ k < w.heap.size :=
  ⟨⟨hX.2.2 0 _ rfl, hX.2.2 1 _ rfl, hX.2.2 2 _ rfl, hX.2.2 3 _ rfl, hX.2.2 4 _ rfl⟩, ⟨hX.2.1 _, hX.2.1 _, hX.2.1 _, hX.2.1 _, hX.2.1 _⟩, hX.1⟩
set_option maxHeartbeats 16000000 in
set_option maxRecDepth 100000 in
theorem rone_leaf {L : List Nd} (hd : IsDoc L) (hw60 : ∀ y ∈ L, y.words.length ≤ 60) {wd : Int} (hwd1 : 1 ≤ wd) (hwd2 : wd ≤ maxX) {An : Option Addr} {nn cn : Nat} (hnn : nn ≤ 1000) {w0 : World} (hS : Sees w0 An nn L) :
    ∀ (i : Nat) (x : Nd), L[i]? = some x → x.kind ≠ 1 → ∀ (H : Int) (s : Gs) (A A2 : Option Addr) (n c m c2 : Nat) (w : World), GsOk H s → H + sumE L (ev1 L i x) ≤ maxN → s.ams.length + 60 * (ev1 L i x).length ≤ 100000 → s.fls.length + (ev1 L i x).length ≤ 1000 → Below w0.heap.size w0 w → GsIn w0.heap.size w s A n c A2 m c2 →
    Calls Try.prog 26 #[.agg #[.slice A n c, .slice A2 m c2, .int .i64 0, .int .i64 s.pen.1, .int .i64 s.pen.2], .slice An nn cn, .int .i64 (i : Int), .int .i64 wd] w (GsOut w0.heap.size w (oneS L wd i x s) A n c A2 m c2) := by
  intro i x hx hkk H s A A2 n c m c2 w hG hH hla hlf hB hI
  have hlen : L.length = nn := hS.len
  have hin : i < nn := by have := (List.getElem?_eq_some_iff.1 hx).1; omega
  obtain ⟨i0, hi0', hy0, hy1, hy2⟩ := info_parts atom_info
  obtain ⟨b1, o1, mm, x', rfl, hb1, hx', hrg, hsh⟩ := (hS.below hB).at_ hin
  obtain rfl : x = x' := by rw [hx] at hx'; injection hx'
  have hxf : x.fits := hd.1 x (List.mem_of_getElem? hx)
  have HRM := Lib.hid (show ∀ W', On w W' → Calls Try.prog 35 #[.slice (some ⟨b1, o1, none⟩) nn cn, .int .i64 (i : Int), .int .i64 wd] W' fun e w' => e = .returned (.agg #[.int .i64 (roomP L wd i).1, .int .i64 (roomP L wd i).2]) ∧ Below W'.heap.size W' w' from fun W' ho => vroom_to hd hwd1 hwd2 (by omega) hin ((hS.below hB).on ho))
  obtain ⟨rb0, rb1, rb2, rb3⟩ := room_bd hd.1 hwd1 hwd2 i
  obtain ⟨⟨rx, rw_⟩, hrm⟩ : ∃ r, roomP L wd i = r := ⟨_, rfl⟩
  rw [hrm] at HRM rb0 rb1 rb2 rb3
  simp only at HRM rb0 rb1 rb2 rb3
  have hwr1 : IntKind.i64.wrap (rx + rw_) = rx + rw_ := IntWalk.i64_in _ (by unfold maxX at *; omega)
  have hHm : H ≤ maxN := by have := sumE_pos hd.1 (ev1 L i x); omega
  have hpl : s.pen.1 + s.pen.2 ≤ H := hG.p2
  have hp0 := hG.p0
  have hp1 := hG.p1
  have hwr2 : IntKind.i64.wrap (s.pen.1 + s.pen.2) = s.pen.1 + s.pen.2 := IntWalk.i64_in _ (by unfold maxN at *; omega)
  have hi0 : (0 : Int) ≤ (i : Int) := by omega
  have hin2 : (i : Int) < (nn : Int) := by omega
  have HX := Lib.hid hx
  have HD := Lib.hid hd
  have HG := Lib.hid hG
  have HH := Lib.hid hH
  have HLA := Lib.hid hla
  have HLF := Lib.hid hlf
  have HB := Lib.hid hB
  have HI := Lib.hid hI
  have HSH := Lib.hid hsh
  have HRG := Lib.hid hrg
  have HXF := Lib.hid hxf
  have HRMM := Lib.hid hrm
  have HS := Lib.hid hS
  have HLN := Lib.hid hlen
  have HW60 := Lib.hid hw60
  clear hx hx' hd hG hH hla hlf hB hI hsh hrg hxf hrm hS hlen hw60
  go_enter Try.func26, Try.ntmps26
  go_wp2_with ((with_reducible refine stop_load 40 (.tmp 24) ?_ ?_); exact rfl)
  refine Stop.intro ?_
  generalize hW : World.alloc (World.alloc w _) _ = W
  have HX0 := Lib.hid (show Box W w.heap.size (gsV s A n c A2 m c2) by rw [← hW]; exact (Box.new w (gsV s A n c A2 m c2) _).alloc _)
  have HR0 := Lib.hid (show Box W (w.heap.size + 1) [.slice none 0 0, .slice none 0 0, .int .i64 0, .int .i64 0, .int .i64 0] by rw [← hW]; exact box_new _ _ _ _ (by simp) _ rfl)
  have hbW : Below w.heap.size w W := by rw [← hW]; exact ((Below.refl _ _).alloc (Nat.le_refl _) _).alloc (by simp) _
  have hsW : W.heap.size = w.heap.size + 1 + 1 := by rw [← hW]; simp
  have HBW := Lib.hid hbW
  clear hW
  refine wpList_load_mid rfl 40 (.tmp 24) rfl b1 (o1 + i * 20) rfl (encM mm) _ (range_on HRG.out W hbW) Try.underlying40 rfl (by kernel_rfl) ?_
  clear hbW
  go_wp2_with ((with_reducible refine stop_store 40 (.tmp 9) (.tmp 25) ?_ ?_); exact rfl)
  refine Stop.intro ?_
  refine wpList_store_row rfl 40 (.tmp 9) (.tmp 25) rfl (w.heap.size + 1 + 1) rfl 40 #[.int .i64 0, .int .i64 0, .int .i64 0, .int .i64 0, .int .i64 0, .int .i64 0, .int .i64 0, .int .i64 0, .int .i64 0, .int .i64 0, .int .i64 0, .int .i64 0, .int .i64 0, .int .i64 0, .int .i64 0, .int .i64 0, .slice none 0 0, .int .i64 0, .int .i64 0, .int .i64 0] (encM mm).toArray rfl (Blk.new W 40 [.int .i64 0, .int .i64 0, .int .i64 0, .int .i64 0, .int .i64 0, .int .i64 0, .int .i64 0, .int .i64 0, .int .i64 0, .int .i64 0, .int .i64 0, .int .i64 0, .int .i64 0, .int .i64 0, .int .i64 0, .int .i64 0, .slice none 0 0, .int .i64 0, .int .i64 0, .int .i64 0] _ hsW.symm _ rfl) (by kernel_rfl) rfl (encM_alls mm) ?_
  intro V hV
  have hVs : V.heap.size = W.heap.size + 1 := by rw [hV, setRow_size]; simp
  have hbV : On W V := by rw [hV]; exact below_setRow ((Below.refl _ _).alloc (Nat.le_refl _) _) (Nat.le_of_eq hsW) _
  have HK1 := Lib.hid (show Box V (w.heap.size + 1 + 1) (encM mm) by rw [hV]; exact (Blk.row (Blk.new W 40 [.int .i64 0, .int .i64 0, .int .i64 0, .int .i64 0, .int .i64 0, .int .i64 0, .int .i64 0, .int .i64 0, .int .i64 0, .int .i64 0, .int .i64 0, .int .i64 0, .int .i64 0, .int .i64 0, .int .i64 0, .int .i64 0, .slice none 0 0, .int .i64 0, .int .i64 0, .int .i64 0] _ hsW.symm _ rfl) (encM mm) _ rfl).box)
  have HX1 := Lib.hid (HX0.out.below hbV)
  have HR1 := Lib.hid (HR0.out.below hbV)
  have HB1 := Lib.hid (on_then HBW.out hbV)
  clear hV hVs hbV HX0 HR0 HBW hsW
  go_wp2_with fail
  refine (HRM.out V HB1.out).mono ?_
  rintro e w1 ⟨rfl, hb⟩
  have HX2 := Lib.hid (HX1.out.below hb)
  have HR2 := Lib.hid (HR1.out.below hb)
  have HK2 := Lib.hid (HK1.out.below hb)
  have HB2 := Lib.hid (on_then HB1.out hb)
  clear hb HX1 HR1 HK1 HB1 HRM
  go_wp2_with ((with_reducible refine stop_load 3 (.tmp 30) ?_ ?_); exact rfl)
  refine Stop.intro ?_
  generalize hW : World.alloc w1 _ = W1
  have HM1 := Lib.hid (show Box W1 w1.heap.size [.int .i64 rx, .int .i64 rw_] by rw [← hW]; exact Box.new2 _ _ _ _)
  have HX3 := Lib.hid (show Box W1 w.heap.size (gsV s A n c A2 m c2) by rw [← hW]; exact HX2.out.alloc _)
  have HR3 := Lib.hid (show Box W1 (w.heap.size + 1) [.slice none 0 0, .slice none 0 0, .int .i64 0, .int .i64 0, .int .i64 0] by rw [← hW]; exact HR2.out.alloc _)
  have HK3 := Lib.hid (show Box W1 (w.heap.size + 1 + 1) (encM mm) by rw [← hW]; exact HK2.out.alloc _)
  have HB3 := Lib.hid (show On w W1 by rw [← hW]; exact On.alloc HB2.out _)
  clear hW HX2 HR2 HK2 HB2
  obtain ⟨m0, m1, _, _, _⟩ := HM1.out.of2
  go_wp2_with ((with_reducible refine stop_dst 38 ?_ ?_); exact rfl)
  refine Stop.intro ?_
  generalize hW : World.alloc W1 _ = W2
  have HQ := Lib.hid (show Box W2 W1.heap.size [.int .i64 rx, .int .i64 (rx + rw_)] by rw [← hW]; exact Box.new2 _ _ _ _)
  have HX4 := Lib.hid (show Box W2 w.heap.size (gsV s A n c A2 m c2) by rw [← hW]; exact HX3.out.alloc _)
  have HR4 := Lib.hid (show Box W2 (w.heap.size + 1) [.slice none 0 0, .slice none 0 0, .int .i64 0, .int .i64 0, .int .i64 0] by rw [← hW]; exact HR3.out.alloc _)
  have HK4 := Lib.hid (show Box W2 (w.heap.size + 1 + 1) (encM mm) by rw [← hW]; exact HK3.out.alloc _)
  have HB4 := Lib.hid (show On w W2 by rw [← hW]; exact On.alloc HB3.out _)
  have hqk : w.heap.size + 1 + 1 < W1.heap.size := HK3.out.1
  clear hW HX3 HR3 HK3 HB3 HM1 m0 m1
  generalize W1.heap.size = Q at HQ hqk ⊢
  obtain ⟨⟨g0, g1, g2, g3, g4⟩, _, _⟩ := gs_of HX4.out
  go_wp2_with ((with_reducible refine stop_dst 45 ?_ ?_); exact rfl)
  refine Stop.intro ?_
  clear g0 g1 g2 g3 g4
  have hqz : Q < W2.heap.size := HQ.out.1
  have hwz : w.heap.size ≤ W2.heap.size := HB4.out.size
  have HT := Lib.hid (show St14 w0.heap.size w W2.heap.size Q mm rx (rx + rw_) (Value.slice A n c).ownBlock (Value.slice A2 m c2).ownBlock W2 s A n c A2 m c2 from ⟨HX4.out, HR4.out, HK4.out, HQ.out, HI.out.on HB4.out, fun r e => .inl (owns_block_lt HI.out.ams r e), fun r e => .inl (owns_block_lt HI.out.fls r e), (World.grownBy.refl w _).trans ⟨HB4.out.os, HB4.out.tape, HB4.out.output, HB4.out.size, fun k hk _ => HB4.out.block k hk⟩, .inl rfl, .inl rfl, Nat.le_refl _, hqk, hqz⟩)
  have HAK := Lib.hid (show ∀ r, (Value.slice A n c).ownBlock = some r → r < w.heap.size from owns_block_lt HI.out.ams)
  have HFK := Lib.hid (show ∀ r, (Value.slice A2 m c2).ownBlock = some r → r < w.heap.size from owns_block_lt HI.out.fls)
  have HRB := Lib.hid (show ∀ r, (Value.slice A n c).ownBlock = some r → w0.heap.size ≤ r from owns_block HI.out.ams)
  have HOW := HB4
  clear HX4 HR4 HK4 HQ HI HB4 hqk
  obtain ⟨Z, hZ⟩ : ∃ Z, W2.heap.size = Z := ⟨_, rfl⟩
  rw [hZ] at HT hqz hwz
  have HZ := Lib.hid hZ
  clear hZ hwr1
  have HNI := Lib.hid (show NearI rx ∧ NearI (rx + rw_) from ⟨by unfold NearI farB maxX at *; omega, by unfold NearI farB maxX at *; omega⟩)
  have HNP := Lib.hid (show NearI s.pen.1 ∧ NearI s.pen.2 ∧ NearI (s.pen.1 + s.pen.2) from ⟨by unfold NearI farB maxN at *; omega, by unfold NearI farB maxN at *; omega, by unfold NearI farB maxN at *; omega⟩)
  have HHM := Lib.hid hHm
  have HFN := Lib.hid (HG.out.nears hHm)
  have HP := Lib.hid (show 0 ≤ s.pen.1 ∧ 0 ≤ s.pen.2 ∧ s.pen.1 + s.pen.2 ≤ H from ⟨hp0, hp1, hpl⟩)
  clear hp0 hp1 hpl hwr2 hHm
  rcases HXF.out with ⟨hk1, _, _⟩ | ⟨hk2, _, hl2, hsp2, _, hws2, _⟩ | ⟨hk3, _, _, _, _, hw3, hh3, _⟩ | ⟨hk4, _, _, _, _, hw4, hh4, hs4⟩
  · exact absurd hk1 hkk
  · -- a text
    have hk := hk2
    have HQ := Lib.hid (show oneS L wd i x s = textS (rx, rw_) i x s by rw [oneS_leaf HX.out (by omega), HRMM.out]; unfold leafS; rw [if_pos hk])
    have hev : ev1 L i x = [.leaf i] := by unfold ev1; rw [if_neg (by omega)]
    have HSE := Lib.hid (show sumE L (ev1 L i x) = x.line * (x.words.length : Int) by rw [hev, sumE_cons, sumE_nil, evH_leaf HX.out]; unfold leafH; rw [if_pos hk]; omega)
    have HEL := Lib.hid (show (ev1 L i x).length = 1 by rw [hev]; rfl)
    have HW6 := Lib.hid (HW60.out x (List.mem_of_getElem? HX.out))
    have HLI := Lib.hid (show 0 ≤ x.line ∧ x.line ≤ 1099511627776 from ⟨by have := hl2.1; omega, by have := hl2.2; unfold maxN at *; omega⟩)
    obtain ⟨ls, hls⟩ : ∃ ls, lnsL s.fls x.words x.space x.line rx (rx + rw_) 0 (s.pen.1 + s.pen.2) = ls := ⟨_, rfl⟩
    have HLM := Lib.hid (show ls.length ≤ 60 by rw [← hls]; exact Nat.le_trans (lnsL_most _) HW6.out)
    have HLB := Lib.hid (show ∀ z ∈ ls, 0 ≤ z.y ∧ z.y + x.line ≤ H + x.line * (x.words.length : Int) by
      intro z hz
      rw [← hls] at hz
      have := lns_bd (l := s.fls) (ws := x.words) (sp := x.space) (a := rx) (b := rx + rw_) HLI.out.1 _ 0 (s.pen.1 + s.pen.2) H HG.out.ends HP.out.2.2 z hz
      have h2 := mul_up (show (lnsF s.fls x.words x.space x.line rx (rx + rw_) (x.words.length - 0) 0 (s.pen.1 + s.pen.2)).length ≤ x.words.length from lnsL_most (s.pen.1 + s.pen.2)) HLI.out.1
      have := HP.out
      omega)
    have HN9 := Lib.hid (show Near9 x.words x.space from ⟨⟨by have := hsp2.1; omega, by have := hsp2.2; unfold farN maxN at *; omega⟩, fun z hz => ⟨by have := (hws2 z hz).1; omega, by have := (hws2 z hz).2; unfold farN maxN at *; omega⟩⟩)
    have hmn : mm.n ≤ 1000 := by have := HSH.out.2.1; have := HW6.out; omega
    have HIW := Lib.hid (show ∀ W', On w W' → Ints W' mm.A mm.n x.words from fun W' ho => HSH.out.2.below (B := w.heap.size) ho rfl)
    have HC := Lib.hid (show ∀ W', St14 w0.heap.size w Z Q mm rx (rx + rw_) (Value.slice A n c).ownBlock (Value.slice A2 m c2).ownBlock W' s A n c A2 m c2 → On w W' → Calls Try.prog 40 #[.slice A2 m c2, .slice mm.A mm.n mm.c, .int .i64 x.space, .int .i64 x.line, .int .i64 (s.pen.1 + s.pen.2), .agg #[.int .i64 rx, .int .i64 (rx + rw_)]] W' (LnsOwn W' ls) from
      fun W' h' ho => rtext_to hls HFN.out HNP.out.2.2 HLI.out.1 HLI.out.2 HG.out.ends HP.out.2.2 (by have := HHM.out; unfold maxN at *; omega) HNI.out.1 HNI.out.2 HN9.out hmn (ownsRow_rows encFl_len (by decide) h'.gs.fls) (HIW.out W' ho))
    have HE := Lib.hid (show textS (rx, rw_) i x s = { s with ams := s.ams ++ ls.map (lineAm i x.line), pen := penLns x.line s.pen ls } by
      unfold textS Gs.place
      simp only
      rw [hls])
    clear hls hl2 hsp2 hws2 hk2 hmn hev
    obtain ⟨⟨nd0, nd1, nd2, nd3, nd4, nd5, nd13⟩, ⟨nd14, nd15, nd16, nd17, nd18, nd19⟩, nl⟩ := nd_see HSH.out HT.out.nd
    rw [hk] at nd0
    obtain ⟨⟨g0, g1, g2, g3, g4⟩, ⟨f0, f1, f2, f3, f4⟩, gl⟩ := gs_of HT.out.box
    obtain ⟨d0, d1, _, _, _⟩ := HT.out.sp.of2
    go_wp2_with fail
    refine (HC.out W2 HT.out HOW.out).mono ?_
    rintro e w5 ⟨AL, nl5, cl, rfl, hnl, hownl, hb5⟩
    have hzw : Z ≤ w5.heap.size := Nat.le_trans HT.out.zs hb5.size
    have hzz := HT.out.zs
    have HTA := Lib.hid (HT.out.on hb5)
    have HT5 := Lib.hid (show St14 w0.heap.size w w5.heap.size Q mm rx (rx + rw_) (Value.slice A n c).ownBlock (Value.slice A2 m c2).ownBlock w5 s A n c A2 m c2 from ⟨HTA.out.box, HTA.out.res, HTA.out.nd, HTA.out.sp, HTA.out.gs, fun r e => .inl (HAK.out r e), fun r e => .inl (HFK.out r e), HTA.out.gr, .inl rfl, .inl rfl, Nat.le_refl _, HTA.out.q0, by have := HTA.out.qz; omega⟩)
    have HRL := Lib.hid (ownsRow_rows encLn_len (by decide) hownl)
    have HBL := Lib.hid (show ∀ q, AL = some q → w.heap.size ≤ q.block ∧ q.block < w5.heap.size from fun q hq => by
      subst hq
      exact ⟨by have := owns_block hownl q.block rfl; omega, owns_block_lt hownl q.block rfl⟩)
    have HNL := Lib.hid hnl
    have hn60 : nl5 ≤ 60 := by have := HLM.out; omega
    have HBZ := Lib.hid (show ∀ q, AL = some q → w.heap.size < q.block from fun q hq => by
      subst hq
      have := owns_block hownl q.block rfl
      have := HT.out.box.1
      omega)
    clear hnl hownl hb5 HTA HT hzw hzz d0 d1 HC g0 g1 g2 g3 g4 f0 f1 f2 f3 f4 gl nd0 nd1 nd2 nd3 nd4 nd5 nd13 nd14 nd15 nd16 nd17 nd18 nd19 nl
    go_wp2_with fail
    generalize w5.heap.size = Z5 at HT5 HBL
    go_loopw [17, 18] (fun iv xv wr => ∃ (k : Nat) (A1 : Option Addr) (n1 c1 : Nat), iv = .int .i64 (k : Int) ∧ k ≤ nl5 ∧ Hid (n1 = n + k) ∧ Hid (St14 w0.heap.size w Z5 Q mm rx (rx + rw_) (Value.slice A n c).ownBlock (Value.slice A2 m c2).ownBlock wr { s with ams := s.ams ++ (ls.take k).map (lineAm i x.line), pen := penLns x.line s.pen (ls.take k) } A1 n1 c1 A2 m c2) ∧ Hid (Rows 5 encLn wr AL nl5 ls)) (fun iv _ _ => nl5 - (intOf iv).toNat)
    case atStart => exact ⟨0, A, n, c, rfl, Nat.zero_le _, Lib.hid rfl, Lib.hid (by have := HT5.out; simpa [penLns] using this), HRL⟩
    case round =>
      obtain ⟨k, A1, n1, c1, rfl, hkn, HN1, HT, HRL⟩ := hrel
      by_cases hlt : k < nl5
      · have hlt2 : (k : Int) < (nl5 : Int) := by omega
        obtain ⟨b5, o5, z, rfl, hb5, hz, hzc⟩ := HRL.out.at_ hlt
        have hzb := HLB.out z (List.mem_of_getElem? hz)
        have HBB5 := Lib.hid (HBL.out _ rfl)
        have HBK5 := Lib.hid (show w.heap.size < b5 from HBZ.out _ rfl)
        have HTK := Lib.hid (show ls.take (k + 1) = ls.take k ++ [z] from take_one hz)
        have hwz : IntKind.i64.wrap (z.y + x.line) = z.y + x.line := IntWalk.i64_in _ (by have := HH.out; have := HSE.out; have := HLI.out; unfold maxN at *; omega)
        obtain ⟨z0, z1, z2, z3, z4⟩ := z
        have q0 := hzc 0 _ rfl
        have q1 := hzc 1 _ rfl
        have q2 := hzc 2 _ rfl
        have q3 := hzc 3 _ rfl
        have q4 := hzc 4 _ rfl
        simp only [Nat.add_zero] at q0 q1 q2 q3 q4 hwz
        clear hzc hz hzb hb5
        go_wp2_with ((with_reducible refine stop_dst 129 ?_ ?_); exact rfl)
        refine Stop.intro ?_
        generalize hU : World.alloc wr _ = U
        have HXZ := Lib.hid (show Box U wr.heap.size (encLn ⟨z0, z1, z2, z3, z4⟩) by rw [← hU]; exact Box.new wr (encLn ⟨z0, z1, z2, z3, z4⟩) _)
        have HT6 := Lib.hid (HT.out.on (show Below wr.heap.size wr U by rw [← hU]; exact (Below.refl _ _).alloc (Nat.le_refl _) _))
        have HRL6 := Lib.hid (HRL.out.below (show Below wr.heap.size wr U by rw [← hU]; exact (Below.refl _ _).alloc (Nat.le_refl _) _))
        have hzr : Z5 ≤ wr.heap.size := HT.out.zs
        have HAL6 := Lib.hid (show ∀ r, (Value.slice A1 n1 c1).ownBlock = some r → r < wr.heap.size from owns_block_lt HT.out.gs.ams)
        have hkr : w.heap.size < wr.heap.size := HT.out.box.1
        clear hU HT HRL q0 q1 q2 q3 q4
        obtain ⟨⟨nd0, nd1, nd2, nd3, nd4, nd5, nd13⟩, ⟨nd14, nd15, nd16, nd17, nd18, nd19⟩, nl⟩ := nd_see HSH.out HT6.out.nd
        rw [hk] at nd0
        obtain ⟨⟨g0, g1, g2, g3, g4⟩, ⟨f0, f1, f2, f3, f4⟩, gl⟩ := gs_of HT6.out.box
        obtain ⟨⟨e0, e1, e2, e3, e4⟩, _, _⟩ := HXZ.out.of5l
        go_wp2_with ((with_reducible refine stop_dst 147 ?_ ?_); exact rfl)
        refine Stop.intro ?_
        have HT6a := Lib.hid (HT6.out.on ((Below.refl U.heap.size U).alloc (Nat.le_refl _) (.cells #[.int .i64 1, .int .i64 (i : Int), .int .i64 z0, .int .i64 z1, .int .i64 z2, .int .i64 z3, .int .i64 z4, .int .i64 x.line] 32)))
        have hlim : n1 ≤ 100000 := by have h1 := HLA.out; rw [HEL.out] at h1; have h2 := HT6.out.gs.na; have h3 := HN1.out; have h4 := HLM.out; have h5 := HNL.out; simp only [List.length_append, List.length_map, List.length_take] at h2; omega
        refine wpList_append_cells_at rfl (.tmp 131) (.tmp 146) _ rfl w0.heap.size 32 i0 (.agg #[.int .i64 0, .int .i64 0, .int .i64 0, .int .i64 0, .int .i64 0, .int .i64 0, .int .i64 0, .int .i64 0]) 8 64 Try.underlying23 hi0' hy0 hy1 hy2 rfl (by decide) (.slice A1 n1 c1) n1 _ rfl HT6a.out.gs.ams _ 1 1 _ (by decide) rfl (cells_am U 32 1 (i : Int) z0 z1 z2 z3 z4 x.line _ rfl) (encAm_one _) (by unfold maxLen; omega) (by omega) (by have := HB.out.size; have := HT6.out.gr.size; simp; omega) ?_
        intro A7 c7 w7 hown7 hg7 ha7
        have HT7 := Lib.hid (HT6.out.am hown7 hg7 ha7)
        have hlt7 := HT6.out.lt
        obtain ⟨⟨v0, _⟩, ⟨u0, _⟩, ul⟩ := gs_of (HT6a.out.box.grown hg7 (HT6a.out.fa.ne (Nat.le_refl _) (by omega)))
        have HRL7 := Lib.hid (rows_far (HRL6.out.below ((Below.refl U.heap.size U).alloc (Nat.le_refl _) (.cells #[.int .i64 1, .int .i64 (i : Int), .int .i64 z0, .int .i64 z1, .int .i64 z2, .int .i64 z3, .int .i64 z4, .int .i64 x.line] 32))) hg7 (fun q hq e => by injection hq with hq; subst hq; have := HT6.out.fa _ e; have := HBB5.out; simp only at *; omega))
        have HXZ7 := Lib.hid ((HXZ.out.alloc (.cells #[.int .i64 1, .int .i64 (i : Int), .int .i64 z0, .int .i64 z1, .int .i64 z2, .int .i64 z3, .int .i64 z4, .int .i64 x.line] 32)).grown hg7 (fun r e => by have := HAL6.out r e; omega))
        clear hown7 hg7 ha7 HT6 HT6a hlim hlt7 HRL6 HXZ HAL6 e0 e1 e2 e3 e4 g0 g1 g2 g3 g4 f0 f1 f2 f3 f4 gl nd0 nd1 nd2 nd3 nd4 nd5 nd13 nd14 nd15 nd16 nd17 nd18 nd19 nl
        go_wp2_with ((with_reducible refine stop_dst 150 ?_ ?_); exact rfl)
        refine Stop.intro ?_
        clear v0 u0 ul
        have HRL8 := Lib.hid (rows_far HRL7.out (grownBy_setCellN w7 w.heap.size 0 (.slice A7 (n1 + 1) c7)) (fun q hq e => by injection hq with hq; subst hq; injection e with e; have := HBK5.out; simp only at *; omega))
        have HXZ8 := Lib.hid (HXZ7.out.set_other (m := w.heap.size) (by omega) 0 (.slice A7 (n1 + 1) c7))
        clear HRL7 HXZ7
        generalize w7.setCell ⟨w.heap.size, 0, none⟩ (.slice A7 (n1 + 1) c7) = W7 at HT7 HRL8 HXZ8 ⊢
        obtain ⟨⟨nd0, nd1, nd2, nd3, nd4, nd5, nd13⟩, ⟨nd14, nd15, nd16, nd17, nd18, nd19⟩, nl⟩ := nd_see HSH.out HT7.out.nd
        rw [hk] at nd0
        obtain ⟨⟨g0, g1, g2, g3, g4⟩, ⟨f0, f1, f2, f3, f4⟩, gl⟩ := gs_of HT7.out.box
        obtain ⟨⟨e0, e1, e2, e3, e4⟩, _, _⟩ := HXZ8.out.of5l
        go_wp2_with ((with_reducible refine stop_dst 124 ?_ ?_); exact rfl)
        refine Stop.intro ?_
        have HT8 := Lib.hid (HT7.out.pen (z3 + x.line) 0)
        have HRL9 := Lib.hid (rows_far (rows_far HRL8.out (grownBy_setCellN W7 w.heap.size 3 (.int .i64 (z3 + x.line))) (fun q hq e => by injection hq with hq; subst hq; injection e with e; have := HBK5.out; simp only at *; omega)) (grownBy_setCellN _ w.heap.size 4 (.int .i64 0)) (fun q hq e => by injection hq with hq; subst hq; injection e with e; have := HBK5.out; simp only at *; omega))
        clear HT7 HRL8 HXZ8 e0 e1 e2 e3 e4 g0 g1 g2 g3 g4 f0 f1 f2 f3 f4 gl nd0 nd1 nd2 nd3 nd4 nd5 nd13 nd14 nd15 nd16 nd17 nd18 nd19 nl
        generalize (W7.setCell ⟨w.heap.size, 3, none⟩ (.int .i64 (z3 + x.line))).setCell ⟨w.heap.size, 4, none⟩ (.int .i64 0) = W8 at HT8 HRL9 ⊢
        have HT9 := Lib.hid (show St14 w0.heap.size w Z5 Q mm rx (rx + rw_) (Value.slice A n c).ownBlock (Value.slice A2 m c2).ownBlock W8 { s with ams := s.ams ++ (ls.take (k + 1)).map (lineAm i x.line), pen := penLns x.line s.pen (ls.take (k + 1)) } A7 (n1 + 1) c7 A2 m c2 by
          rw [HTK.out, List.map_append, ← List.append_assoc, penLns_snoc]
          exact HT8.out)
        have HN9' := Lib.hid (show n1 + 1 = n + (k + 1) by have := HN1.out; omega)
        clear HT8
        go_wp2_with fail
        go_roundw
        case rel => exact ⟨k + 1, A7, n1 + 1, c7, by go_num, by omega, HN9', HT9, HRL9⟩
        case measure => simp [intOf] <;> omega
      · have hge : (nl5 : Int) ≤ (k : Int) := by omega
        have HTE := Lib.hid (show St14 w0.heap.size w Z5 Q mm rx (rx + rw_) (Value.slice A n c).ownBlock (Value.slice A2 m c2).ownBlock wr { s with ams := s.ams ++ ls.map (lineAm i x.line), pen := penLns x.line s.pen ls } A1 n1 c1 A2 m c2 by
          have h := HT.out
          rw [List.take_of_length_le (by have := HNL.out; omega)] at h
          exact h)
        clear HT HRL
        obtain ⟨⟨pe1, pe2⟩, hpe⟩ : ∃ r, penLns x.line s.pen ls = r := ⟨_, rfl⟩
        rw [hpe] at HTE HE
        clear hpe
        obtain ⟨⟨g0, g1, g2, g3, g4⟩, ⟨f0, f1, f2, f3, f4⟩, gl⟩ := gs_of HTE.out.box
        obtain ⟨⟨z0, z1, z2, z3, z4⟩, ⟨y0, y1, y2, y3, y4⟩, zl⟩ := zero_of HTE.out.res
        obtain ⟨⟨nd0, nd1, nd2, nd3, nd4, nd5, nd13⟩, ⟨nd14, nd15, nd16, nd17, nd18, nd19⟩, nl⟩ := nd_see HSH.out HTE.out.nd
        rw [hk] at nd0
        go_wp2_with fail
        have hY := ((((HTE.out.res.set 0 (.slice A1 n1 c1) (by simp [zero14])).set 1 (.slice A2 m c2) (by simp [zero14])).set 2 (.int .i64 0) (by simp [zero14])).set 3 (.int .i64 pe1) (by simp [zero14])).set 4 (.int .i64 pe2) (by simp [zero14])
        have s0 := hY.2.2 0 _ rfl
        have s1 := hY.2.2 1 _ rfl
        have s2 := hY.2.2 2 _ rfl
        have s3 := hY.2.2 3 _ rfl
        have s4 := hY.2.2 4 _ rfl
        have hO := HTE.out.out rfl rfl (.slice A1 n1 c1) (.slice A2 m c2) (.int .i64 0) (.int .i64 pe1) (.int .i64 pe2)
        rw [HQ.out, HE.out]
        exact bodyPost_ret (v := .agg #[.slice A1 n1 c1, .slice A2 m c2, .int .i64 0, .int .i64 pe1, .int .i64 pe2]) (by simp [results, Try.results26, go_sem, s0, s1, s2, s3, s4]) rfl hO
  · -- a box
    have hk := hk3
    have HQ := Lib.hid (show oneS L wd i x s = boxS (rx, rw_) i x s by rw [oneS_leaf HX.out (by omega), HRMM.out]; unfold leafS; rw [if_neg (by omega), if_pos hk])
    have HWH := Lib.hid (show NearI x.h ∧ NearI x.w ∧ 0 ≤ x.h from ⟨by have := hh3.1; have := hh3.2; unfold NearI farB maxN at *; omega, by have := hw3.1; have := hw3.2; unfold NearI farB maxN at *; omega, by have := hh3.1; omega⟩)
    obtain ⟨t, ht⟩ : ∃ t, seekE s.fls x.h x.w rx (rx + rw_) (s.pen.1 + s.pen.2) = t := ⟨_, rfl⟩
    obtain ⟨⟨p, q⟩, hp⟩ : ∃ r, bandL s.fls t x.h (rx, rx + rw_) = r := ⟨_, rfl⟩
    have htl : t ≤ H := by rw [← ht]; exact seekE_le HG.out.ends HP.out.2.2
    have htg : s.pen.1 + s.pen.2 ≤ t := by rw [← ht]; exact seekE_ge _
    have hwt : IntKind.i64.wrap (t + x.h) = t + x.h := IntWalk.i64_in _ (by have := HP.out; have := HHM.out; have := hh3.1; have := hh3.2; unfold maxN at *; omega)
    have HC := Lib.hid (rroom_to (c := c2) ht hp HFN.out HNP.out.2.2.y HWH.out.1 HNI.out.1 HNI.out.2 (ownsRow_rows encFl_len (by decide) HT.out.gs.fls))
    have HE := Lib.hid (show boxS (rx, rw_) i x s = { s with ams := s.ams ++ [(⟨2, (i : Int), 0, 0, p, t, x.w, x.h⟩ : Am)], pen := (t + x.h, 0) } by
      unfold boxS boxY Gs.place
      simp only
      rw [ht, hp])
    clear ht hp htl htg hw3 hh3 hk3
    obtain ⟨⟨nd0, nd1, nd2, nd3, nd4, nd5, nd13⟩, ⟨nd14, nd15, nd16, nd17, nd18, nd19⟩, nl⟩ := nd_see HSH.out HT.out.nd
    rw [hk] at nd0
    obtain ⟨⟨g0, g1, g2, g3, g4⟩, ⟨f0, f1, f2, f3, f4⟩, gl⟩ := gs_of HT.out.box
    obtain ⟨d0, d1, _, _, _⟩ := HT.out.sp.of2
    go_wp2_with fail
    refine HC.out.mono ?_
    rintro e w5 ⟨rfl, hb⟩
    have HT5 := Lib.hid (HT.out.on hb)
    clear hb HT HC g0 g1 g2 g3 g4 f0 f1 f2 f3 f4 gl nd0 nd1 nd2 nd3 nd4 nd5 nd13 nd14 nd15 nd16 nd17 nd18 nd19 nl d0 d1
    go_wp2_with ((with_reducible refine stop_dst 173 ?_ ?_); exact rfl)
    refine Stop.intro ?_
    generalize hU : World.alloc w5 _ = U
    have HBB := Lib.hid (show Box U w5.heap.size [.int .i64 p, .int .i64 q] by rw [← hU]; exact Box.new2 _ _ _ _)
    have HT6 := Lib.hid (HT5.out.on (show Below w5.heap.size w5 U by rw [← hU]; exact (Below.refl _ _).alloc (Nat.le_refl _) _))
    clear hU HT5
    obtain ⟨⟨nd0, nd1, nd2, nd3, nd4, nd5, nd13⟩, ⟨nd14, nd15, nd16, nd17, nd18, nd19⟩, nl⟩ := nd_see HSH.out HT6.out.nd
    obtain ⟨⟨g0, g1, g2, g3, g4⟩, ⟨f0, f1, f2, f3, f4⟩, gl⟩ := gs_of HT6.out.box
    obtain ⟨d0, d1, _, _, _⟩ := HBB.out.of2
    go_wp2_with ((with_reducible refine stop_dst 186 ?_ ?_); exact rfl)
    refine Stop.intro ?_
    have HT6a := Lib.hid (HT6.out.on ((Below.refl U.heap.size U).alloc (Nat.le_refl _) (.cells #[.int .i64 2, .int .i64 (i : Int), .int .i64 0, .int .i64 0, .int .i64 p, .int .i64 t, .int .i64 x.w, .int .i64 x.h] 32)))
    have hna := HT6.out.gs.na
    have hlim : n ≤ 100000 := by have := HLA.out; omega
    refine wpList_append_cells_at rfl (.tmp 175) (.tmp 185) _ rfl w0.heap.size 32 i0 (.agg #[.int .i64 0, .int .i64 0, .int .i64 0, .int .i64 0, .int .i64 0, .int .i64 0, .int .i64 0, .int .i64 0]) 8 64 Try.underlying23 hi0' hy0 hy1 hy2 rfl (by decide) (.slice A n c) n _ rfl HT6a.out.gs.ams _ 1 1 _ (by decide) rfl (cells_am U 32 2 (i : Int) 0 0 p t x.w x.h _ rfl) (encAm_one _) (by unfold maxLen; omega) (by omega) (by have := HB.out.size; have := HT6.out.gr.size; simp; omega) ?_
    intro A7 c7 w7 hown7 hg7 ha7
    have HT7 := Lib.hid (HT6.out.am hown7 hg7 ha7)
    have hlt7 := HT6.out.lt
    obtain ⟨⟨v0, _⟩, ⟨u0, _⟩, ul⟩ := gs_of (HT6a.out.box.grown hg7 (HT6a.out.fa.ne (Nat.le_refl _) (by omega)))
    clear hown7 hg7 ha7 HT6 HT6a HBB hna hlim hlt7 d0 d1 g0 g1 g2 g3 g4 f0 f1 f2 f3 f4 gl nd0 nd1 nd2 nd3 nd4 nd5 nd13 nd14 nd15 nd16 nd17 nd18 nd19 nl
    go_wp2_with ((with_reducible refine stop_dst 190 ?_ ?_); exact rfl)
    refine Stop.intro ?_
    clear v0 u0 ul
    generalize w7.setCell ⟨w.heap.size, 0, none⟩ (.slice A7 (n + 1) c7) = W7 at HT7 ⊢
    obtain ⟨⟨nd0, nd1, nd2, nd3, nd4, nd5, nd13⟩, ⟨nd14, nd15, nd16, nd17, nd18, nd19⟩, nl⟩ := nd_see HSH.out HT7.out.nd
    obtain ⟨⟨g0, g1, g2, g3, g4⟩, ⟨f0, f1, f2, f3, f4⟩, gl⟩ := gs_of HT7.out.box
    go_wp2_with ((with_reducible refine stop_dst 195 ?_ ?_); exact rfl)
    refine Stop.intro ?_
    have HT8 := Lib.hid (HT7.out.pen (t + x.h) 0)
    clear HT7 g0 g1 g2 g3 g4 f0 f1 f2 f3 f4 gl nd0 nd1 nd2 nd3 nd4 nd5 nd13 nd14 nd15 nd16 nd17 nd18 nd19 nl
    generalize (W7.setCell ⟨w.heap.size, 3, none⟩ (.int .i64 (t + x.h))).setCell ⟨w.heap.size, 4, none⟩ (.int .i64 0) = W8 at HT8 ⊢
    obtain ⟨⟨g0, g1, g2, g3, g4⟩, ⟨f0, f1, f2, f3, f4⟩, gl⟩ := gs_of HT8.out.box
    obtain ⟨⟨z0, z1, z2, z3, z4⟩, ⟨y0, y1, y2, y3, y4⟩, zl⟩ := zero_of HT8.out.res
    obtain ⟨⟨nd0, nd1, nd2, nd3, nd4, nd5, nd13⟩, ⟨nd14, nd15, nd16, nd17, nd18, nd19⟩, nl⟩ := nd_see HSH.out HT8.out.nd
    rw [hk] at nd0
    go_wp2_with fail
    have hY := ((((HT8.out.res.set 0 (.slice A7 (n + 1) c7) (by simp [zero14])).set 1 (.slice A2 m c2) (by simp [zero14])).set 2 (.int .i64 0) (by simp [zero14])).set 3 (.int .i64 (t + x.h)) (by simp [zero14])).set 4 (.int .i64 0) (by simp [zero14])
    have s0 := hY.2.2 0 _ rfl
    have s1 := hY.2.2 1 _ rfl
    have s2 := hY.2.2 2 _ rfl
    have s3 := hY.2.2 3 _ rfl
    have s4 := hY.2.2 4 _ rfl
    have hO := HT8.out.out rfl rfl (.slice A7 (n + 1) c7) (.slice A2 m c2) (.int .i64 0) (.int .i64 (t + x.h)) (.int .i64 0)
    rw [HQ.out, HE.out]
    exact bodyPost_ret (v := .agg #[.slice A7 (n + 1) c7, .slice A2 m c2, .int .i64 0, .int .i64 (t + x.h), .int .i64 0]) (by simp [results, Try.results26, go_sem, s0, s1, s2, s3, s4]) rfl hO
  · -- a float
    have hk := hk4
    have HQ := Lib.hid (show oneS L wd i x s = floatS (rx, rw_) i x s by rw [oneS_leaf HX.out (by omega), HRMM.out]; unfold leafS; rw [if_neg (by omega), if_neg (by omega), if_pos hk])
    have HNE := Lib.hid (show NearI x.h ∧ NearI x.w from ⟨by have := hh4.1; have := hh4.2; unfold NearI farB maxN at *; omega, by have := hw4.1; have := hw4.2; unfold NearI farB maxN at *; omega⟩)
    have HNA := Lib.hid HT.out.gs.na
    obtain ⟨t, ht⟩ : ∃ t, spotX s.fls ⟨(i : Int), x.side, (n : Int), 0, 0, x.w, x.h⟩ (s.pen.1 + s.pen.2) rx (rx + rw_) = t := ⟨_, rfl⟩
    obtain ⟨p, hp⟩ : ∃ p, spotY s.fls ⟨(i : Int), x.side, (n : Int), 0, 0, x.w, x.h⟩ (s.pen.1 + s.pen.2) rx (rx + rw_) = p := ⟨_, rfl⟩
    have HE := Lib.hid (show floatS (rx, rw_) i x s = { s with fls := s.fls ++ [⟨(i : Int), x.side, (n : Int), t, p, x.w, x.h⟩] } by
      unfold floatS putL Gs.place
      simp only
      rw [HNA.out, ht, hp])
    have hlim2 : m ≤ 1000 := by have := HLF.out; have := HT.out.gs.nf; omega
    have HC := Lib.hid (show ∀ W', St14 w0.heap.size w Z Q mm rx (rx + rw_) (Value.slice A n c).ownBlock (Value.slice A2 m c2).ownBlock W' s A n c A2 m c2 → Calls Try.prog 42 #[.slice A2 m c2, .agg #[.int .i64 (i : Int), .int .i64 x.side, .int .i64 (n : Int), .int .i64 0, .int .i64 0, .int .i64 x.w, .int .i64 x.h], .int .i64 (s.pen.1 + s.pen.2), .agg #[.int .i64 rx, .int .i64 (rx + rw_)]] W' (FlsOwn W' (s.fls ++ [⟨(i : Int), x.side, (n : Int), t, p, x.w, x.h⟩])) from
      fun W' h' => rput_own ht hp HFN.out ⟨show NearI 0 by unfold NearI farB; omega, show NearI 0 by unfold NearI farB; omega, HNE.out.2, HNE.out.1⟩ HNP.out.2.2 HNI.out.1 HNI.out.2 hlim2 (ownsRow_rows encFl_len (by decide) h'.gs.fls))
    clear ht hp hw4 hh4 hs4 hk4 hlim2
    obtain ⟨⟨nd0, nd1, nd2, nd3, nd4, nd5, nd13⟩, ⟨nd14, nd15, nd16, nd17, nd18, nd19⟩, nl⟩ := nd_see HSH.out HT.out.nd
    rw [hk] at nd0
    obtain ⟨⟨g0, g1, g2, g3, g4⟩, ⟨f0, f1, f2, f3, f4⟩, gl⟩ := gs_of HT.out.box
    go_wp2_with ((with_reducible refine stop_dst 210 ?_ ?_); exact rfl)
    refine Stop.intro ?_
    generalize hU : World.alloc W2 _ = U
    have HBB := Lib.hid (show Box U W2.heap.size (encFl ⟨(i : Int), x.side, (n : Int), 0, 0, x.w, x.h⟩) by rw [← hU]; exact Box.new W2 (encFl ⟨(i : Int), x.side, (n : Int), 0, 0, x.w, x.h⟩) _)
    have HT6 := Lib.hid (HT.out.on (show Below W2.heap.size W2 U by rw [← hU]; exact (Below.refl _ _).alloc (Nat.le_refl _) _))
    clear hU HT g0 g1 g2 g3 g4 f0 f1 f2 f3 f4 gl nd0 nd1 nd2 nd3 nd4 nd5 nd13 nd14 nd15 nd16 nd17 nd18 nd19 nl
    obtain ⟨⟨nd0, nd1, nd2, nd3, nd4, nd5, nd13⟩, ⟨nd14, nd15, nd16, nd17, nd18, nd19⟩, nl⟩ := nd_see HSH.out HT6.out.nd
    rw [hk] at nd0
    obtain ⟨⟨g0, g1, g2, g3, g4⟩, ⟨f0, f1, f2, f3, f4⟩, gl⟩ := gs_of HT6.out.box
    obtain ⟨d0, d1, _, _, _⟩ := HT6.out.sp.of2
    obtain ⟨⟨e0, e1, e2, e3, e4, e5, e6⟩, el⟩ := HBB.out.of7
    simp only at e0 e1 e2 e3 e4 e5 e6
    go_wp2_with fail
    refine (HC.out U HT6.out).mono ?_
    rintro e w7 ⟨A7, n7, c7, rfl, hn7, hown7, hb7⟩
    have HT7 := Lib.hid (HT6.out.fl HB.out.size hn7 hown7 hb7)
    have HTB := Lib.hid (HT6.out.on hb7)
    clear hn7 hown7 hb7 HT6 HBB HC d0 d1 e0 e1 e2 e3 e4 e5 e6 el g0 g1 g2 g3 g4 f0 f1 f2 f3 f4 gl nd0 nd1 nd2 nd3 nd4 nd5 nd13 nd14 nd15 nd16 nd17 nd18 nd19 nl
    obtain ⟨⟨_, v1, _⟩, ⟨_, u1, _⟩, ul⟩ := gs_of HTB.out.box
    go_wp2_with ((with_reducible refine stop_load 67 (.tmp 4) ?_ ?_); exact rfl)
    refine Stop.intro ?_
    clear v1 u1 ul HTB
    generalize w7.setCell ⟨w.heap.size, 1, none⟩ (.slice A7 n7 c7) = W8 at HT7 ⊢
    obtain ⟨⟨g0, g1, g2, g3, g4⟩, ⟨f0, f1, f2, f3, f4⟩, gl⟩ := gs_of HT7.out.box
    obtain ⟨⟨z0, z1, z2, z3, z4⟩, ⟨y0, y1, y2, y3, y4⟩, zl⟩ := zero_of HT7.out.res
    obtain ⟨⟨nd0, nd1, nd2, nd3, nd4, nd5, nd13⟩, ⟨nd14, nd15, nd16, nd17, nd18, nd19⟩, nl⟩ := nd_see HSH.out HT7.out.nd
    rw [hk] at nd0
    go_wp2_with fail
    have hY := ((((HT7.out.res.set 0 (.slice A n c) (by simp [zero14])).set 1 (.slice A7 n7 c7) (by simp [zero14])).set 2 (.int .i64 0) (by simp [zero14])).set 3 (.int .i64 s.pen.1) (by simp [zero14])).set 4 (.int .i64 s.pen.2) (by simp [zero14])
    have s0 := hY.2.2 0 _ rfl
    have s1 := hY.2.2 1 _ rfl
    have s2 := hY.2.2 2 _ rfl
    have s3 := hY.2.2 3 _ rfl
    have s4 := hY.2.2 4 _ rfl
    have hO := HT7.out.out rfl rfl (.slice A n c) (.slice A7 n7 c7) (.int .i64 0) (.int .i64 s.pen.1) (.int .i64 s.pen.2)
    rw [HQ.out, HE.out]
    exact bodyPost_ret (v := .agg #[.slice A n c, .slice A7 n7 c7, .int .i64 0, .int .i64 s.pen.1, .int .i64 s.pen.2]) (by simp [results, Try.results26, go_sem, s0, s1, s2, s3, s4]) rfl hO
end Go.Proofs.Ytipmdhfinlkceaa
