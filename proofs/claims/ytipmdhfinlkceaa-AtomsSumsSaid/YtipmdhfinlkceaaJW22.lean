import Derived.Test.YtipmdhfinlkceaaJW17
/- FlowRef2. -/
set_option linter.unusedVariables false
set_option linter.unusedSimpArgs false
namespace Go.Proofs.Ytipmdhfinlkceaa
open Go.RowKit
set_option maxHeartbeats 16000000 in
set_option maxRecDepth 100000 in
theorem rone_in {L : List Nd} (hd : IsDoc L) (hw60 : ∀ y ∈ L, y.words.length ≤ 60) {wd : Int} (hwd1 : 1 ≤ wd) (hwd2 : wd ≤ maxX) {An : Option Addr} {nn cn : Nat} (hnn : nn ≤ 1000) {w0 : World} (hS : Sees w0 An nn L) :
    ∀ (d i : Nat) (x : Nd), L[i]? = some x → nxt i x ≤ i + d → ∀ (H : Int) (s : Gs) (A A2 : Option Addr) (n c m c2 : Nat) (w : World), GsOk H s → H + sumE L (ev1 L i x) ≤ maxN → s.ams.length + 60 * (ev1 L i x).length ≤ 100000 → s.fls.length + (ev1 L i x).length ≤ 1000 → Below w0.heap.size w0 w → GsIn w0.heap.size w s A n c A2 m c2 →
    Calls Try.prog 26 #[.agg #[.slice A n c, .slice A2 m c2, .int .i64 0, .int .i64 s.pen.1, .int .i64 s.pen.2], .slice An nn cn, .int .i64 (i : Int), .int .i64 wd] w (GsOut w0.heap.size w (oneS L wd i x s) A n c A2 m c2) := by
  intro d
  induction d using Nat.strongRecOn with
  | _ d ih =>
  intro i x hx hid H s A A2 n c m c2 w hG hH hla hlf hB hI
  by_cases hkk : x.kind = 1
  case neg => exact rone_leaf hd hw60 hwd1 hwd2 hnn hS i x hx hkk H s A A2 n c m c2 w hG hH hla hlf hB hI
  have hlen : L.length = nn := hS.len
  have hin : i < nn := by have := (List.getElem?_eq_some_iff.1 hx).1; omega
  obtain ⟨i0, hi0', hy0, hy1, hy2⟩ := info_parts atom_info
  obtain ⟨b1, o1, mm, x', rfl, hb1, hx', hrg, hsh⟩ := (hS.below hB).at_ hin
  obtain rfl : x = x' := by rw [hx] at hx'; injection hx'
  have hxf : x.fits := hd.1 x (List.mem_of_getElem? hx)
  have HRM := Lib.hid (show ∀ W', On w W' → Calls Try.prog 35 #[.slice (some ⟨b1, o1, none⟩) nn cn, .int .i64 (i : Int), .int .i64 wd] W' fun e w' => e = .returned (.agg #[.int .i64 (roomP L wd i).1, .int .i64 (roomP L wd i).2]) ∧ Below W'.heap.size W' w' from fun W' ho => vroom_to hd hwd1 hwd2 (by omega) hin ((hS.below hB).on ho))
  obtain ⟨rb0, rb1, rb2, rb3⟩ := room_bd hd.1 hwd1 hwd2 i
  obtain ⟨⟨rx, rw_⟩, hrm⟩ : ∃ r, roomP L wd i = r := ⟨_, rfl⟩
  rw [hrm] at HRM rb0 rb1 rb2 rb3
  simp only at HRM rb0 rb1 rb2 rb3
  have hwr1 : IntKind.i64.wrap (rx + rw_) = rx + rw_ := IntWalk.i64_in _ (by unfold maxX at *; omega)
  have hHm : H ≤ maxN := by have := sumE_pos hd.1 (ev1 L i x); omega
  have hpl : s.pen.1 + s.pen.2 ≤ H := hG.p2
  have hp0 := hG.p0
  have hp1 := hG.p1
  have hwr2 : IntKind.i64.wrap (s.pen.1 + s.pen.2) = s.pen.1 + s.pen.2 := IntWalk.i64_in _ (by unfold maxN at *; omega)
  have hi0 : (0 : Int) ≤ (i : Int) := by omega
  have hin2 : (i : Int) < (nn : Int) := by omega
  have HX := Lib.hid hx
  have HD := Lib.hid hd
  have HG := Lib.hid hG
  have HH := Lib.hid hH
  have HLA := Lib.hid hla
  have HLF := Lib.hid hlf
  have HB := Lib.hid hB
  have HI := Lib.hid hI
  have HSH := Lib.hid hsh
  have HRG := Lib.hid hrg
  have HXF := Lib.hid hxf
  have HIH := Lib.hid ih
  have HRMM := Lib.hid hrm
  have HID := Lib.hid hid
  have HS := Lib.hid hS
  have HLN := Lib.hid hlen
  have HW60 := Lib.hid hw60
  clear hx hx' hd hG hH hla hlf hB hI hsh hrg hxf ih hrm hid hS hlen hw60
  go_enter Try.func26, Try.ntmps26
  go_wp2_with ((with_reducible refine stop_load 40 (.tmp 24) ?_ ?_); exact rfl)
  refine Stop.intro ?_
  generalize hW : World.alloc (World.alloc w _) _ = W
  have HX0 := Lib.hid (show Box W w.heap.size (gsV s A n c A2 m c2) by rw [← hW]; exact (Box.new w (gsV s A n c A2 m c2) _).alloc _)
  have HR0 := Lib.hid (show Box W (w.heap.size + 1) [.slice none 0 0, .slice none 0 0, .int .i64 0, .int .i64 0, .int .i64 0] by rw [← hW]; exact box_new _ _ _ _ (by simp) _ rfl)
  have hbW : Below w.heap.size w W := by rw [← hW]; exact ((Below.refl _ _).alloc (Nat.le_refl _) _).alloc (by simp) _
  have hsW : W.heap.size = w.heap.size + 1 + 1 := by rw [← hW]; simp
  have HBW := Lib.hid hbW
  clear hW
  refine wpList_load_mid rfl 40 (.tmp 24) rfl b1 (o1 + i * 20) rfl (encM mm) _ (range_on HRG.out W hbW) Try.underlying40 rfl (by kernel_rfl) ?_
  clear hbW
  go_wp2_with ((with_reducible refine stop_store 40 (.tmp 9) (.tmp 25) ?_ ?_); exact rfl)
  refine Stop.intro ?_
  refine wpList_store_row rfl 40 (.tmp 9) (.tmp 25) rfl (w.heap.size + 1 + 1) rfl 40 #[.int .i64 0, .int .i64 0, .int .i64 0, .int .i64 0, .int .i64 0, .int .i64 0, .int .i64 0, .int .i64 0, .int .i64 0, .int .i64 0, .int .i64 0, .int .i64 0, .int .i64 0, .int .i64 0, .int .i64 0, .int .i64 0, .slice none 0 0, .int .i64 0, .int .i64 0, .int .i64 0] (encM mm).toArray rfl (Blk.new W 40 [.int .i64 0, .int .i64 0, .int .i64 0, .int .i64 0, .int .i64 0, .int .i64 0, .int .i64 0, .int .i64 0, .int .i64 0, .int .i64 0, .int .i64 0, .int .i64 0, .int .i64 0, .int .i64 0, .int .i64 0, .int .i64 0, .slice none 0 0, .int .i64 0, .int .i64 0, .int .i64 0] _ hsW.symm _ rfl) (by kernel_rfl) rfl (encM_alls mm) ?_
  intro V hV
  have hVs : V.heap.size = W.heap.size + 1 := by rw [hV, setRow_size]; simp
  have hbV : On W V := by rw [hV]; exact below_setRow ((Below.refl _ _).alloc (Nat.le_refl _) _) (Nat.le_of_eq hsW) _
  have HK1 := Lib.hid (show Box V (w.heap.size + 1 + 1) (encM mm) by rw [hV]; exact (Blk.row (Blk.new W 40 [.int .i64 0, .int .i64 0, .int .i64 0, .int .i64 0, .int .i64 0, .int .i64 0, .int .i64 0, .int .i64 0, .int .i64 0, .int .i64 0, .int .i64 0, .int .i64 0, .int .i64 0, .int .i64 0, .int .i64 0, .int .i64 0, .slice none 0 0, .int .i64 0, .int .i64 0, .int .i64 0] _ hsW.symm _ rfl) (encM mm) _ rfl).box)
  have HX1 := Lib.hid (HX0.out.below hbV)
  have HR1 := Lib.hid (HR0.out.below hbV)
  have HB1 := Lib.hid (on_then HBW.out hbV)
  clear hV hVs hbV HX0 HR0 HBW hsW
  go_wp2_with fail
  refine (HRM.out V HB1.out).mono ?_
  rintro e w1 ⟨rfl, hb⟩
  have HX2 := Lib.hid (HX1.out.below hb)
  have HR2 := Lib.hid (HR1.out.below hb)
  have HK2 := Lib.hid (HK1.out.below hb)
  have HB2 := Lib.hid (on_then HB1.out hb)
  clear hb HX1 HR1 HK1 HB1 HRM
  go_wp2_with ((with_reducible refine stop_load 3 (.tmp 30) ?_ ?_); exact rfl)
  refine Stop.intro ?_
  generalize hW : World.alloc w1 _ = W1
  have HM1 := Lib.hid (show Box W1 w1.heap.size [.int .i64 rx, .int .i64 rw_] by rw [← hW]; exact Box.new2 _ _ _ _)
  have HX3 := Lib.hid (show Box W1 w.heap.size (gsV s A n c A2 m c2) by rw [← hW]; exact HX2.out.alloc _)
  have HR3 := Lib.hid (show Box W1 (w.heap.size + 1) [.slice none 0 0, .slice none 0 0, .int .i64 0, .int .i64 0, .int .i64 0] by rw [← hW]; exact HR2.out.alloc _)
  have HK3 := Lib.hid (show Box W1 (w.heap.size + 1 + 1) (encM mm) by rw [← hW]; exact HK2.out.alloc _)
  have HB3 := Lib.hid (show On w W1 by rw [← hW]; exact On.alloc HB2.out _)
  clear hW HX2 HR2 HK2 HB2
  obtain ⟨m0, m1, _, _, _⟩ := HM1.out.of2
  go_wp2_with ((with_reducible refine stop_dst 38 ?_ ?_); exact rfl)
  refine Stop.intro ?_
  generalize hW : World.alloc W1 _ = W2
  have HQ := Lib.hid (show Box W2 W1.heap.size [.int .i64 rx, .int .i64 (rx + rw_)] by rw [← hW]; exact Box.new2 _ _ _ _)
  have HX4 := Lib.hid (show Box W2 w.heap.size (gsV s A n c A2 m c2) by rw [← hW]; exact HX3.out.alloc _)
  have HR4 := Lib.hid (show Box W2 (w.heap.size + 1) [.slice none 0 0, .slice none 0 0, .int .i64 0, .int .i64 0, .int .i64 0] by rw [← hW]; exact HR3.out.alloc _)
  have HK4 := Lib.hid (show Box W2 (w.heap.size + 1 + 1) (encM mm) by rw [← hW]; exact HK3.out.alloc _)
  have HB4 := Lib.hid (show On w W2 by rw [← hW]; exact On.alloc HB3.out _)
  have hqk : w.heap.size + 1 + 1 < W1.heap.size := HK3.out.1
  clear hW HX3 HR3 HK3 HB3 HM1 m0 m1
  generalize W1.heap.size = Q at HQ hqk ⊢
  obtain ⟨⟨g0, g1, g2, g3, g4⟩, _, _⟩ := gs_of HX4.out
  go_wp2_with ((with_reducible refine stop_dst 45 ?_ ?_); exact rfl)
  refine Stop.intro ?_
  clear g0 g1 g2 g3 g4
  have hqz : Q < W2.heap.size := HQ.out.1
  have hwz : w.heap.size ≤ W2.heap.size := HB4.out.size
  have HT := Lib.hid (show St14 w0.heap.size w W2.heap.size Q mm rx (rx + rw_) (Value.slice A n c).ownBlock (Value.slice A2 m c2).ownBlock W2 s A n c A2 m c2 from ⟨HX4.out, HR4.out, HK4.out, HQ.out, HI.out.on HB4.out, fun r e => .inl (owns_block_lt HI.out.ams r e), fun r e => .inl (owns_block_lt HI.out.fls r e), (World.grownBy.refl w _).trans ⟨HB4.out.os, HB4.out.tape, HB4.out.output, HB4.out.size, fun k hk _ => HB4.out.block k hk⟩, .inl rfl, .inl rfl, Nat.le_refl _, hqk, hqz⟩)
  have HAK := Lib.hid (show ∀ r, (Value.slice A n c).ownBlock = some r → r < w.heap.size from owns_block_lt HI.out.ams)
  have HFK := Lib.hid (show ∀ r, (Value.slice A2 m c2).ownBlock = some r → r < w.heap.size from owns_block_lt HI.out.fls)
  have HRB := Lib.hid (show ∀ r, (Value.slice A n c).ownBlock = some r → w0.heap.size ≤ r from owns_block HI.out.ams)
  have HOW := HB4
  clear HX4 HR4 HK4 HQ HI HB4 hqk
  obtain ⟨Z, hZ⟩ : ∃ Z, W2.heap.size = Z := ⟨_, rfl⟩
  rw [hZ] at HT hqz hwz
  have HZ := Lib.hid hZ
  clear hZ hwr1
  have HNI := Lib.hid (show NearI rx ∧ NearI (rx + rw_) from ⟨by unfold NearI farB maxX at *; omega, by unfold NearI farB maxX at *; omega⟩)
  have HNP := Lib.hid (show NearI s.pen.1 ∧ NearI s.pen.2 ∧ NearI (s.pen.1 + s.pen.2) from ⟨by unfold NearI farB maxN at *; omega, by unfold NearI farB maxN at *; omega, by unfold NearI farB maxN at *; omega⟩)
  have HHM := Lib.hid hHm
  have HFN := Lib.hid (HG.out.nears hHm)
  have HP := Lib.hid (show 0 ≤ s.pen.1 ∧ 0 ≤ s.pen.2 ∧ s.pen.1 + s.pen.2 ≤ H from ⟨hp0, hp1, hpl⟩)
  clear hp0 hp1 hpl hwr2 hHm
  rcases HXF.out with ⟨hk1, hs1, _⟩ | ⟨hk2, _⟩ | ⟨hk3, _⟩ | ⟨hk4, _⟩
  · -- a block
    have hk := hk1
    obtain ⟨NX, hNX⟩ : ∃ NX, nxt i x = NX := ⟨_, rfl⟩
    have hnx := nxt_of HD.out.2.nested HX.out
    rw [hNX] at hnx
    have HNE2 := Lib.hid hNX
    have HNL := Lib.hid (show i + 1 ≤ NX ∧ (NX : Int) = (i : Int) + x.size ∧ NX ≤ nn from ⟨by have := nxt_lt i x; omega, hnx.1, by have := HLN.out; omega⟩)
    obtain ⟨t1, t2, t3, t4⟩ := sty_all_pos HXF.out
    have HSB := Lib.hid (show 0 ≤ x.sty.bottom + x.sty.padBottom by omega)
    obtain ⟨⟨q1, q2, q3, q4, _⟩, _⟩ := hs1
    have HNS := Lib.hid (show NearI x.sty.top ∧ NearI x.sty.padTop ∧ NearI x.sty.bottom ∧ NearI x.sty.padBottom from ⟨by have := q1.2; unfold NearI farB maxN at *; omega, by have := q3.2; unfold NearI farB maxN at *; omega, by have := q2.2; unfold NearI farB maxN at *; omega, by have := q4.2; unfold NearI farB maxN at *; omega⟩)
    have hev : sumE L (ev1 L i x) = (x.sty.top + x.sty.padTop) + (sumE L (evN L (i + 1) NX) + (x.sty.bottom + x.sty.padBottom)) := by
      unfold ev1
      rw [if_pos hk, hNX, sumE_cons, sumE_append, sumE_cons, sumE_nil, evH_begin HX.out, evH_end HX.out]
      omega
    have hel : (ev1 L i x).length = 2 + (evN L (i + 1) NX).length := by
      unfold ev1
      rw [if_pos hk, hNX]
      simp only [List.length_cons, List.length_append, List.length_nil]
      omega
    have HCL := Lib.hid (show Clo L (i + 1) NX by rw [← hNX]; exact Clo.inner HD.out.2.nested HX.out hk)
    have HGB := Lib.hid (show GsOk (H + (x.sty.top + x.sty.padTop)) (beginS x s) ∧ H + (x.sty.top + x.sty.padTop) + sumE L (evN L (i + 1) NX) + (x.sty.bottom + x.sty.padBottom) ≤ maxN from ⟨(begin_ok HG.out HXF.out).1, by have := HH.out; rw [hev] at this; omega⟩)
    have HLB := Lib.hid (show (beginS x s).ams.length + 60 * ((evN L (i + 1) NX).length + 1) ≤ 100000 ∧ (beginS x s).fls.length + ((evN L (i + 1) NX).length + 1) ≤ 1000 by
      have h1 := HLA.out
      have h2 := HLF.out
      rw [hel] at h1 h2
      show s.ams.length + _ ≤ _ ∧ s.fls.length + _ ≤ _
      omega)
    obtain ⟨⟨lp, lok⟩, hlow⟩ : ∃ r, lowestL s.fls x.sty.clear = r := ⟨_, rfl⟩
    obtain ⟨⟨cy, cm⟩, hcl⟩ : ∃ r, clearS s.fls x.sty.clear s.pen = r := ⟨_, rfl⟩
    obtain ⟨⟨ey, em⟩, hen⟩ : ∃ r, enterP (cy, cm) x.sty.top x.sty.padTop = r := ⟨_, rfl⟩
    have hco := clearS_ok HG.out x.sty.clear
    rw [hcl] at hco
    have HPB := Lib.hid (show PenB 0 (cy, cm) from PenB.start (by have := HHM.out; simp only at hco; unfold NearI farB maxN at *; omega) (by have := HHM.out; simp only at hco; unfold NearI farB maxN at *; omega))
    have HPS := Lib.hid (show PenB 0 (s.pen.1, s.pen.2) from PenB.start HNP.out.1 HNP.out.2.1)
    have HBE := Lib.hid (show beginS x s = { s with pen := (ey, em) } by unfold beginS; rw [hcl, hen])
    have HEN := Lib.hid hen
    have HCW := Lib.hid (rlowest_to (c := c2) hlow HFN.out (ownsRow_rows encFl_len (by decide) HT.out.gs.fls))
    have hnb : x.size ≤ 1000 ∧ 1 ≤ x.size := by have := HNL.out; omega
    have hwx : IntKind.i64.wrap ((i : Int) + x.size) = (i : Int) + x.size := IntWalk.i64_in _ (by omega)
    have HCS := Lib.hid hcl
    have HLO := Lib.hid hlow
    clear hNX hnx q1 q2 q3 q4 hev hel hlow hcl hen hco t1 t2 t3 t4 hk1
    obtain ⟨⟨nd0, nd1, nd2, nd3, nd4, nd5, nd13⟩, ⟨nd14, nd15, nd16, nd17, nd18, nd19⟩, nl⟩ := nd_see HSH.out HT.out.nd
    rw [hk] at nd0
    obtain ⟨⟨g0, g1, g2, g3, g4⟩, ⟨f0, f1, f2, f3, f4⟩, gl⟩ := gs_of HT.out.box
    go_wp2_with fail
    refine HCW.out.mono ?_
    rintro e w5 ⟨rfl, hb⟩
    have HT5 := Lib.hid (HT.out.on hb)
    clear hb HT HCW g0 g1 g2 g3 g4 f0 f1 f2 f3 f4 gl nd0 nd1 nd2 nd3 nd4 nd5 nd13 nd14 nd15 nd16 nd17 nd18 nd19 nl
    cases lok with
    | false =>
      have HT6 := Lib.hid (show St14 w0.heap.size w Z Q mm rx (rx + rw_) (Value.slice A n c).ownBlock (Value.slice A2 m c2).ownBlock w5 { s with pen := (cy, cm) } A n c A2 m c2 by
        have e : (cy, cm) = s.pen := by rw [← HCS.out]; unfold clearS; rw [HLO.out]; simp
        rw [e]; exact HT5.out)
      clear HT5
      obtain ⟨⟨nd0, nd1, nd2, nd3, nd4, nd5, nd13⟩, ⟨nd14, nd15, nd16, nd17, nd18, nd19⟩, nl⟩ := nd_see HSH.out HT6.out.nd
      rw [hk] at nd0
      obtain ⟨⟨g0, g1, g2, g3, g4⟩, ⟨f0, f1, f2, f3, f4⟩, gl⟩ := gs_of HT6.out.box
      go_wp2_with fail
      refine (renter_to HEN.out HPB.out (Nat.zero_le _) HNS.out.1 HNS.out.2.1 _).mono ?_
      rintro e we ⟨rfl, hb⟩
      have HTe := Lib.hid (HT6.out.on hb)
      clear hb HT6 g0 g1 g2 g3 g4 f0 f1 f2 f3 f4 gl nd0 nd1 nd2 nd3 nd4 nd5 nd13 nd14 nd15 nd16 nd17 nd18 nd19 nl
      obtain ⟨⟨nd0, nd1, nd2, nd3, nd4, nd5, nd13⟩, ⟨nd14, nd15, nd16, nd17, nd18, nd19⟩, nl⟩ := nd_see HSH.out HTe.out.nd
      rw [hk] at nd0
      obtain ⟨⟨g0, g1, g2, g3, g4⟩, ⟨f0, f1, f2, f3, f4⟩, gl⟩ := gs_of HTe.out.box
      go_wp2_with ((with_reducible refine stop_dst 75 ?_ ?_); exact rfl)
      refine Stop.intro ?_
      have HTf := Lib.hid (HTe.out.pen ey em)
      clear HTe g0 g1 g2 g3 g4 f0 f1 f2 f3 f4 gl nd0 nd1 nd2 nd3 nd4 nd5 nd13 nd14 nd15 nd16 nd17 nd18 nd19 nl
      generalize (we.setCell ⟨w.heap.size, 3, none⟩ (.int .i64 ey)).setCell ⟨w.heap.size, 4, none⟩ (.int .i64 em) = Wf at HTf ⊢
      have HTg := Lib.hid (show St14 w0.heap.size w Z Q mm rx (rx + rw_) (Value.slice A n c).ownBlock (Value.slice A2 m c2).ownBlock Wf (beginS x s) A n c A2 m c2 by rw [HBE.out]; exact HTf.out)
      clear HTf
      go_wp2_with fail
      go_loopw [15] (fun iv wr => ∃ (j : Nat) (s1 : Gs) (H1 : Int) (A1 : Option Addr) (n1 c1 : Nat) (A3 : Option Addr) (m1 c3 : Nat), iv = .int .i64 (j : Int) ∧ i + 1 ≤ j ∧ j ≤ NX ∧ Hid (Clo L j NX) ∧ Hid (runS L wd s1 (evN L j NX) = runS L wd (beginS x s) (evN L (i + 1) NX)) ∧ Hid (GsOk H1 s1 ∧ H1 + sumE L (evN L j NX) + (x.sty.bottom + x.sty.padBottom) ≤ maxN) ∧ Hid (s1.ams.length + 60 * ((evN L j NX).length + 1) ≤ 100000 ∧ s1.fls.length + ((evN L j NX).length + 1) ≤ 1000) ∧ Hid (St14 w0.heap.size w Z Q mm rx (rx + rw_) (Value.slice A n c).ownBlock (Value.slice A2 m c2).ownBlock wr s1 A1 n1 c1 A3 m1 c3)) (fun iv _ => NX - (intOf iv).toNat)
      case atStart => exact ⟨i + 1, beginS x s, H + (x.sty.top + x.sty.padTop), A, n, c, A2, m, c2, by go_num, Nat.le_refl _, HNL.out.1, HCL, Lib.hid rfl, HGB, HLB, HTg⟩
      case round =>
        obtain ⟨j, s1, H1, A1, n1, c1, A3, m1, c3, rfl, hij, hjN, HCJ, HRJ, HGJ, HLJ, HT⟩ := hrel
        have hns := HNL.out.2.1
        by_cases hlt : j < NX
        · have hlt2 : (j : Int) < (i : Int) + x.size := by omega
          obtain ⟨y, hy, hle⟩ := HCJ.out.at_ hlt
          have hjn : j < nn := by have := HNL.out.2.2; omega
          have HBW := Lib.hid (show Below w0.heap.size w0 wr from Below.grown HB.out HT.out.gr HB.out.size HRB.out)
          have HSP := Lib.hid (show sumE L (evN L j NX) = sumE L (ev1 L j y) + sumE L (evN L (nxt j y) NX) by rw [evN_step hlt hy hle, sumE_append])
          have HLP := Lib.hid (show (evN L j NX).length = (ev1 L j y).length + (evN L (nxt j y) NX).length by rw [evN_step hlt hy hle, List.length_append])
          have HPO := Lib.hid (show 0 ≤ sumE L (ev1 L j y) ∧ 0 ≤ sumE L (evN L (nxt j y) NX) from ⟨sumE_pos HD.out.1 _, sumE_pos HD.out.1 _⟩)
          have HIJ := Lib.hid (HIH.out (d - 1) (by have := HID.out; have := nxt_lt i x; omega) j y hy (by have := HID.out; have := HNL.out.2.1; have := HNE2.out; omega) H1 s1 A1 A3 n1 c1 m1 c3 wr HGJ.out.1 (by have := HGJ.out.2; rw [HSP.out] at this; have := HPO.out; have := HSB.out; omega) (by have := HLJ.out.1; rw [HLP.out] at this; omega) (by have := HLJ.out.2; rw [HLP.out] at this; omega) HBW.out HT.out.gs)
          have HNJ := Lib.hid (nxt_of HD.out.2.nested hy).1
          have hys : 1 ≤ y.size ∧ y.size ≤ 1000 := by have h1 := HNJ.out; have h2 := nxt_lt j y; have h3 := HNL.out.2.2; omega
          have hwj : IntKind.i64.wrap ((j : Int) + y.size) = (j : Int) + y.size := IntWalk.i64_in _ (by omega)
          have hj0 : (0 : Int) ≤ (j : Int) := by omega
          have hjn2 : (j : Int) < (nn : Int) := by omega
          have HY := Lib.hid hy
          have HLE := Lib.hid hle
          have hlj := nxt_lt j y
          clear hy hle
          obtain ⟨⟨nd0, nd1, nd2, nd3, nd4, nd5, nd13⟩, ⟨nd14, nd15, nd16, nd17, nd18, nd19⟩, nl⟩ := nd_see HSH.out HT.out.nd
          rw [hk] at nd0
          obtain ⟨⟨g0, g1, g2, g3, g4⟩, ⟨f0, f1, f2, f3, f4⟩, gl⟩ := gs_of HT.out.box
          go_wp2_with fail
          refine HIJ.out.mono ?_
          rintro e w5 ⟨A7, n7, c7, A8, m8, c8, rfl, hi7, hg7, hn7, hf7⟩
          have hlt7 := HT.out.lt
          have HTB := Lib.hid (HT.out.box.grown hg7 (HT.out.fa.ne (Nat.le_refl _) (by omega)))
          have HT7 := Lib.hid (HT.out.inner hi7 hg7 hn7 hf7)
          clear hi7 hg7 hn7 hf7 hlt7 HIJ g0 g1 g2 g3 g4 f0 f1 f2 f3 f4 gl nd0 nd1 nd2 nd3 nd4 nd5 nd13 nd14 nd15 nd16 nd17 nd18 nd19 nl
          obtain ⟨⟨v0, v1, v2, v3, v4⟩, ⟨u0, u1, u2, u3, u4⟩, ul⟩ := gs_of HTB.out
          go_wp2_with ((with_reducible refine stop_dst 85 ?_ ?_); exact rfl)
          refine Stop.intro ?_
          clear v0 v1 v2 v3 v4 u0 u1 u2 u3 u4 ul HTB HT
          generalize ((((w5.setCell ⟨w.heap.size, 0, none⟩ (.slice A7 n7 c7)).setCell ⟨w.heap.size, 1, none⟩ (.slice A8 m8 c8)).setCell ⟨w.heap.size, 2, none⟩ (.int .i64 0)).setCell ⟨w.heap.size, 3, none⟩ (.int .i64 (oneS L wd j y s1).pen.1)).setCell ⟨w.heap.size, 4, none⟩ (.int .i64 (oneS L wd j y s1).pen.2) = W8 at HT7 ⊢
          have hcs : W8.cell? ⟨b1, o1 + j * 20 + 1, none⟩ = some (.int .i64 y.size) := by
            obtain ⟨b2, o2, m2, y2, e2, _, hy2, hr2, hs2⟩ := (HS.out.below (Below.grown HB.out HT7.out.gr HB.out.size HRB.out)).at_ hjn
            injection e2 with e2
            injection e2 with e3 e4
            subst e3 e4
            rw [HY.out] at hy2
            injection hy2 with hy2
            subst hy2
            rw [hs2.1.2.1]
            exact hr2 1 _ rfl
          have HR2 := Lib.hid (show runS L wd (oneS L wd j y s1) (evN L (nxt j y) NX) = runS L wd (beginS x s) (evN L (i + 1) NX) by rw [← runS_step hlt HY.out HLE.out]; exact HRJ.out)
          have HG2 := Lib.hid (show GsOk (H1 + sumE L (ev1 L j y)) (oneS L wd j y s1) ∧ (H1 + sumE L (ev1 L j y)) + sumE L (evN L (nxt j y) NX) + (x.sty.bottom + x.sty.padBottom) ≤ maxN from ⟨run_ok HD.out.1 hwd1 hwd2 _ HGJ.out.1, by have := HGJ.out.2; rw [HSP.out] at this; omega⟩)
          have HL2 := Lib.hid (show (oneS L wd j y s1).ams.length + 60 * ((evN L (nxt j y) NX).length + 1) ≤ 100000 ∧ (oneS L wd j y s1).fls.length + ((evN L (nxt j y) NX).length + 1) ≤ 1000 by
            have h1 := runS_len (w := wd) HW60.out (ev1 L j y) s1
            have h2 := HLJ.out
            rw [HLP.out] at h2
            have e : oneS L wd j y s1 = runS L wd s1 (ev1 L j y) := rfl
            rw [e]
            omega)
          have HC2 := Lib.hid (HCJ.out.next HY.out)
          go_wp2_with fail
          go_roundw
          case rel => exact ⟨nxt j y, oneS L wd j y s1, H1 + sumE L (ev1 L j y), A7, n7, c7, A8, m8, c8, by rw [HNJ.out], by omega, HLE.out, HC2, HR2, HG2, HL2, HT7⟩
          case measure => simp [intOf] <;> (have := HNJ.out; omega)
        · have hge : (i : Int) + x.size ≤ (j : Int) := by omega
          have hjx : j = NX := by omega
          have HSE := Lib.hid (show s1 = runS L wd (beginS x s) (evN L (i + 1) NX) by rw [← HRJ.out, hjx]; exact (runS_end (Nat.le_refl _)).symm)
          have HP1 := Lib.hid (show 0 ≤ s1.pen.1 ∧ 0 ≤ s1.pen.2 ∧ s1.pen.1 + s1.pen.2 ≤ maxN from ⟨HGJ.out.1.p0, HGJ.out.1.p1, by have h1 : s1.pen.1 + s1.pen.2 ≤ H1 := HGJ.out.1.p2; have := HGJ.out.2; have := sumE_pos HD.out.1 (evN L j NX); have := HSB.out; omega⟩)
          obtain ⟨⟨ly, lm⟩, hlv⟩ : ∃ r, leaveP (s1.pen.1, s1.pen.2) x.sty.bottom x.sty.padBottom = r := ⟨_, rfl⟩
          have HLV := Lib.hid hlv
          have HQE := Lib.hid (show oneS L wd i x s = { s1 with pen := (ly, lm) } by
            rw [oneS_block HX.out hk, HNE2.out, ← HSE.out]
            unfold endS
            rw [← hlv])
          have HPJ := Lib.hid (show PenB 0 (s1.pen.1, s1.pen.2) from PenB.start (by have := HP1.out; unfold NearI farB maxN at *; omega) (by have := HP1.out; unfold NearI farB maxN at *; omega))
          clear hlv hjx
          obtain ⟨⟨nd0, nd1, nd2, nd3, nd4, nd5, nd13⟩, ⟨nd14, nd15, nd16, nd17, nd18, nd19⟩, nl⟩ := nd_see HSH.out HT.out.nd
          rw [hk] at nd0
          obtain ⟨⟨g0, g1, g2, g3, g4⟩, ⟨f0, f1, f2, f3, f4⟩, gl⟩ := gs_of HT.out.box
          go_wp2_with fail
          refine (rleave_to HLV.out HPJ.out (Nat.zero_le _) HNS.out.2.2.1 HNS.out.2.2.2 _).mono ?_
          rintro e we ⟨rfl, hb⟩
          have HTe := Lib.hid (HT.out.on hb)
          clear hb HT g0 g1 g2 g3 g4 f0 f1 f2 f3 f4 gl nd0 nd1 nd2 nd3 nd4 nd5 nd13 nd14 nd15 nd16 nd17 nd18 nd19 nl
          obtain ⟨⟨nd0, nd1, nd2, nd3, nd4, nd5, nd13⟩, ⟨nd14, nd15, nd16, nd17, nd18, nd19⟩, nl⟩ := nd_see HSH.out HTe.out.nd
          rw [hk] at nd0
          obtain ⟨⟨g0, g1, g2, g3, g4⟩, ⟨f0, f1, f2, f3, f4⟩, gl⟩ := gs_of HTe.out.box
          go_wp2_with ((with_reducible refine stop_dst 104 ?_ ?_); exact rfl)
          refine Stop.intro ?_
          have HTf := Lib.hid (HTe.out.pen ly lm)
          clear HTe g0 g1 g2 g3 g4 f0 f1 f2 f3 f4 gl nd0 nd1 nd2 nd3 nd4 nd5 nd13 nd14 nd15 nd16 nd17 nd18 nd19 nl
          generalize (we.setCell ⟨w.heap.size, 3, none⟩ (.int .i64 ly)).setCell ⟨w.heap.size, 4, none⟩ (.int .i64 lm) = Wf at HTf ⊢
          obtain ⟨⟨g0, g1, g2, g3, g4⟩, ⟨f0, f1, f2, f3, f4⟩, gl⟩ := gs_of HTf.out.box
          obtain ⟨⟨z0, z1, z2, z3, z4⟩, ⟨y0, y1, y2, y3, y4⟩, zl⟩ := zero_of HTf.out.res
          obtain ⟨⟨nd0, nd1, nd2, nd3, nd4, nd5, nd13⟩, ⟨nd14, nd15, nd16, nd17, nd18, nd19⟩, nl⟩ := nd_see HSH.out HTf.out.nd
          rw [hk] at nd0
          go_wp2_with fail
          have hY := ((((HTf.out.res.set 0 (.slice A1 n1 c1) (by simp [zero14])).set 1 (.slice A3 m1 c3) (by simp [zero14])).set 2 (.int .i64 0) (by simp [zero14])).set 3 (.int .i64 ly) (by simp [zero14])).set 4 (.int .i64 lm) (by simp [zero14])
          have s0 := hY.2.2 0 _ rfl
          have s1 := hY.2.2 1 _ rfl
          have s2 := hY.2.2 2 _ rfl
          have s3 := hY.2.2 3 _ rfl
          have s4 := hY.2.2 4 _ rfl
          have hO := HTf.out.out rfl rfl (.slice A1 n1 c1) (.slice A3 m1 c3) (.int .i64 0) (.int .i64 ly) (.int .i64 lm)
          rw [HQE.out]
          exact bodyPost_ret (v := .agg #[.slice A1 n1 c1, .slice A3 m1 c3, .int .i64 0, .int .i64 ly, .int .i64 lm]) (by simp [results, Try.results26, go_sem, s0, s1, s2, s3, s4]) rfl hO
    | true =>
      have HCV := Lib.hid (show clearP (s.pen.1, s.pen.2) lp = (cy, cm) by rw [← HCS.out]; unfold clearS; rw [HLO.out]; simp)
      have HLN2 := Lib.hid (show NearI lp by
        obtain ⟨f, hf, he⟩ := lowest_from (l := s.fls) (sides := x.sty.clear) (by rw [HLO.out])
        rw [HLO.out] at he
        have h1 := (HG.out.fls f hf).y1
        have h2 := (HG.out.fls f hf).y0
        have h3 := (HG.out.fls f hf).h0
        have := HHM.out
        simp only at he
        unfold NearI farB maxN at *
        omega)
      obtain ⟨⟨nd0, nd1, nd2, nd3, nd4, nd5, nd13⟩, ⟨nd14, nd15, nd16, nd17, nd18, nd19⟩, nl⟩ := nd_see HSH.out HT5.out.nd
      rw [hk] at nd0
      obtain ⟨⟨g0, g1, g2, g3, g4⟩, ⟨f0, f1, f2, f3, f4⟩, gl⟩ := gs_of HT5.out.box
      go_wp2_with fail
      refine (rclear_to HCV.out HPS.out (Nat.zero_le _) HLN2.out _).mono ?_
      rintro e w6 ⟨rfl, hb⟩
      have HT5b := Lib.hid (HT5.out.on hb)
      clear hb HT5 g0 g1 g2 g3 g4 f0 f1 f2 f3 f4 gl nd0 nd1 nd2 nd3 nd4 nd5 nd13 nd14 nd15 nd16 nd17 nd18 nd19 nl
      obtain ⟨⟨nd0, nd1, nd2, nd3, nd4, nd5, nd13⟩, ⟨nd14, nd15, nd16, nd17, nd18, nd19⟩, nl⟩ := nd_see HSH.out HT5b.out.nd
      rw [hk] at nd0
      obtain ⟨⟨g0, g1, g2, g3, g4⟩, ⟨f0, f1, f2, f3, f4⟩, gl⟩ := gs_of HT5b.out.box
      go_wp2_with ((with_reducible refine stop_dst 64 ?_ ?_); exact rfl)
      refine Stop.intro ?_
      have HT6 := Lib.hid (HT5b.out.pen cy cm)
      clear HT5b g0 g1 g2 g3 g4 f0 f1 f2 f3 f4 gl nd0 nd1 nd2 nd3 nd4 nd5 nd13 nd14 nd15 nd16 nd17 nd18 nd19 nl
      generalize (w6.setCell ⟨w.heap.size, 3, none⟩ (.int .i64 cy)).setCell ⟨w.heap.size, 4, none⟩ (.int .i64 cm) = W6 at HT6 ⊢
      obtain ⟨⟨nd0, nd1, nd2, nd3, nd4, nd5, nd13⟩, ⟨nd14, nd15, nd16, nd17, nd18, nd19⟩, nl⟩ := nd_see HSH.out HT6.out.nd
      rw [hk] at nd0
      obtain ⟨⟨g0, g1, g2, g3, g4⟩, ⟨f0, f1, f2, f3, f4⟩, gl⟩ := gs_of HT6.out.box
      go_wp2_with fail
      refine (renter_to HEN.out HPB.out (Nat.zero_le _) HNS.out.1 HNS.out.2.1 _).mono ?_
      rintro e we ⟨rfl, hb⟩
      have HTe := Lib.hid (HT6.out.on hb)
      clear hb HT6 g0 g1 g2 g3 g4 f0 f1 f2 f3 f4 gl nd0 nd1 nd2 nd3 nd4 nd5 nd13 nd14 nd15 nd16 nd17 nd18 nd19 nl
      obtain ⟨⟨nd0, nd1, nd2, nd3, nd4, nd5, nd13⟩, ⟨nd14, nd15, nd16, nd17, nd18, nd19⟩, nl⟩ := nd_see HSH.out HTe.out.nd
      rw [hk] at nd0
      obtain ⟨⟨g0, g1, g2, g3, g4⟩, ⟨f0, f1, f2, f3, f4⟩, gl⟩ := gs_of HTe.out.box
      go_wp2_with ((with_reducible refine stop_dst 75 ?_ ?_); exact rfl)
      refine Stop.intro ?_
      have HTf := Lib.hid (HTe.out.pen ey em)
      clear HTe g0 g1 g2 g3 g4 f0 f1 f2 f3 f4 gl nd0 nd1 nd2 nd3 nd4 nd5 nd13 nd14 nd15 nd16 nd17 nd18 nd19 nl
      generalize (we.setCell ⟨w.heap.size, 3, none⟩ (.int .i64 ey)).setCell ⟨w.heap.size, 4, none⟩ (.int .i64 em) = Wf at HTf ⊢
      have HTg := Lib.hid (show St14 w0.heap.size w Z Q mm rx (rx + rw_) (Value.slice A n c).ownBlock (Value.slice A2 m c2).ownBlock Wf (beginS x s) A n c A2 m c2 by rw [HBE.out]; exact HTf.out)
      clear HTf
      go_wp2_with fail
      go_loopw [15] (fun iv wr => ∃ (j : Nat) (s1 : Gs) (H1 : Int) (A1 : Option Addr) (n1 c1 : Nat) (A3 : Option Addr) (m1 c3 : Nat), iv = .int .i64 (j : Int) ∧ i + 1 ≤ j ∧ j ≤ NX ∧ Hid (Clo L j NX) ∧ Hid (runS L wd s1 (evN L j NX) = runS L wd (beginS x s) (evN L (i + 1) NX)) ∧ Hid (GsOk H1 s1 ∧ H1 + sumE L (evN L j NX) + (x.sty.bottom + x.sty.padBottom) ≤ maxN) ∧ Hid (s1.ams.length + 60 * ((evN L j NX).length + 1) ≤ 100000 ∧ s1.fls.length + ((evN L j NX).length + 1) ≤ 1000) ∧ Hid (St14 w0.heap.size w Z Q mm rx (rx + rw_) (Value.slice A n c).ownBlock (Value.slice A2 m c2).ownBlock wr s1 A1 n1 c1 A3 m1 c3)) (fun iv _ => NX - (intOf iv).toNat)
      case atStart => exact ⟨i + 1, beginS x s, H + (x.sty.top + x.sty.padTop), A, n, c, A2, m, c2, by go_num, Nat.le_refl _, HNL.out.1, HCL, Lib.hid rfl, HGB, HLB, HTg⟩
      case round =>
        obtain ⟨j, s1, H1, A1, n1, c1, A3, m1, c3, rfl, hij, hjN, HCJ, HRJ, HGJ, HLJ, HT⟩ := hrel
        have hns := HNL.out.2.1
        by_cases hlt : j < NX
        · have hlt2 : (j : Int) < (i : Int) + x.size := by omega
          obtain ⟨y, hy, hle⟩ := HCJ.out.at_ hlt
          have hjn : j < nn := by have := HNL.out.2.2; omega
          have HBW := Lib.hid (show Below w0.heap.size w0 wr from Below.grown HB.out HT.out.gr HB.out.size HRB.out)
          have HSP := Lib.hid (show sumE L (evN L j NX) = sumE L (ev1 L j y) + sumE L (evN L (nxt j y) NX) by rw [evN_step hlt hy hle, sumE_append])
          have HLP := Lib.hid (show (evN L j NX).length = (ev1 L j y).length + (evN L (nxt j y) NX).length by rw [evN_step hlt hy hle, List.length_append])
          have HPO := Lib.hid (show 0 ≤ sumE L (ev1 L j y) ∧ 0 ≤ sumE L (evN L (nxt j y) NX) from ⟨sumE_pos HD.out.1 _, sumE_pos HD.out.1 _⟩)
          have HIJ := Lib.hid (HIH.out (d - 1) (by have := HID.out; have := nxt_lt i x; omega) j y hy (by have := HID.out; have := HNL.out.2.1; have := HNE2.out; omega) H1 s1 A1 A3 n1 c1 m1 c3 wr HGJ.out.1 (by have := HGJ.out.2; rw [HSP.out] at this; have := HPO.out; have := HSB.out; omega) (by have := HLJ.out.1; rw [HLP.out] at this; omega) (by have := HLJ.out.2; rw [HLP.out] at this; omega) HBW.out HT.out.gs)
          have HNJ := Lib.hid (nxt_of HD.out.2.nested hy).1
          have hys : 1 ≤ y.size ∧ y.size ≤ 1000 := by have h1 := HNJ.out; have h2 := nxt_lt j y; have h3 := HNL.out.2.2; omega
          have hwj : IntKind.i64.wrap ((j : Int) + y.size) = (j : Int) + y.size := IntWalk.i64_in _ (by omega)
          have hj0 : (0 : Int) ≤ (j : Int) := by omega
          have hjn2 : (j : Int) < (nn : Int) := by omega
          have HY := Lib.hid hy
          have HLE := Lib.hid hle
          have hlj := nxt_lt j y
          clear hy hle
          obtain ⟨⟨nd0, nd1, nd2, nd3, nd4, nd5, nd13⟩, ⟨nd14, nd15, nd16, nd17, nd18, nd19⟩, nl⟩ := nd_see HSH.out HT.out.nd
          rw [hk] at nd0
          obtain ⟨⟨g0, g1, g2, g3, g4⟩, ⟨f0, f1, f2, f3, f4⟩, gl⟩ := gs_of HT.out.box
          go_wp2_with fail
          refine HIJ.out.mono ?_
          rintro e w5 ⟨A7, n7, c7, A8, m8, c8, rfl, hi7, hg7, hn7, hf7⟩
          have hlt7 := HT.out.lt
          have HTB := Lib.hid (HT.out.box.grown hg7 (HT.out.fa.ne (Nat.le_refl _) (by omega)))
          have HT7 := Lib.hid (HT.out.inner hi7 hg7 hn7 hf7)
          clear hi7 hg7 hn7 hf7 hlt7 HIJ g0 g1 g2 g3 g4 f0 f1 f2 f3 f4 gl nd0 nd1 nd2 nd3 nd4 nd5 nd13 nd14 nd15 nd16 nd17 nd18 nd19 nl
          obtain ⟨⟨v0, v1, v2, v3, v4⟩, ⟨u0, u1, u2, u3, u4⟩, ul⟩ := gs_of HTB.out
          go_wp2_with ((with_reducible refine stop_dst 85 ?_ ?_); exact rfl)
          refine Stop.intro ?_
          clear v0 v1 v2 v3 v4 u0 u1 u2 u3 u4 ul HTB HT
          generalize ((((w5.setCell ⟨w.heap.size, 0, none⟩ (.slice A7 n7 c7)).setCell ⟨w.heap.size, 1, none⟩ (.slice A8 m8 c8)).setCell ⟨w.heap.size, 2, none⟩ (.int .i64 0)).setCell ⟨w.heap.size, 3, none⟩ (.int .i64 (oneS L wd j y s1).pen.1)).setCell ⟨w.heap.size, 4, none⟩ (.int .i64 (oneS L wd j y s1).pen.2) = W8 at HT7 ⊢
          have hcs : W8.cell? ⟨b1, o1 + j * 20 + 1, none⟩ = some (.int .i64 y.size) := by
            obtain ⟨b2, o2, m2, y2, e2, _, hy2, hr2, hs2⟩ := (HS.out.below (Below.grown HB.out HT7.out.gr HB.out.size HRB.out)).at_ hjn
            injection e2 with e2
            injection e2 with e3 e4
            subst e3 e4
            rw [HY.out] at hy2
            injection hy2 with hy2
            subst hy2
            rw [hs2.1.2.1]
            exact hr2 1 _ rfl
          have HR2 := Lib.hid (show runS L wd (oneS L wd j y s1) (evN L (nxt j y) NX) = runS L wd (beginS x s) (evN L (i + 1) NX) by rw [← runS_step hlt HY.out HLE.out]; exact HRJ.out)
          have HG2 := Lib.hid (show GsOk (H1 + sumE L (ev1 L j y)) (oneS L wd j y s1) ∧ (H1 + sumE L (ev1 L j y)) + sumE L (evN L (nxt j y) NX) + (x.sty.bottom + x.sty.padBottom) ≤ maxN from ⟨run_ok HD.out.1 hwd1 hwd2 _ HGJ.out.1, by have := HGJ.out.2; rw [HSP.out] at this; omega⟩)
          have HL2 := Lib.hid (show (oneS L wd j y s1).ams.length + 60 * ((evN L (nxt j y) NX).length + 1) ≤ 100000 ∧ (oneS L wd j y s1).fls.length + ((evN L (nxt j y) NX).length + 1) ≤ 1000 by
            have h1 := runS_len (w := wd) HW60.out (ev1 L j y) s1
            have h2 := HLJ.out
            rw [HLP.out] at h2
            have e : oneS L wd j y s1 = runS L wd s1 (ev1 L j y) := rfl
            rw [e]
            omega)
          have HC2 := Lib.hid (HCJ.out.next HY.out)
          go_wp2_with fail
          go_roundw
          case rel => exact ⟨nxt j y, oneS L wd j y s1, H1 + sumE L (ev1 L j y), A7, n7, c7, A8, m8, c8, by rw [HNJ.out], by omega, HLE.out, HC2, HR2, HG2, HL2, HT7⟩
          case measure => simp [intOf] <;> (have := HNJ.out; omega)
        · have hge : (i : Int) + x.size ≤ (j : Int) := by omega
          have hjx : j = NX := by omega
          have HSE := Lib.hid (show s1 = runS L wd (beginS x s) (evN L (i + 1) NX) by rw [← HRJ.out, hjx]; exact (runS_end (Nat.le_refl _)).symm)
          have HP1 := Lib.hid (show 0 ≤ s1.pen.1 ∧ 0 ≤ s1.pen.2 ∧ s1.pen.1 + s1.pen.2 ≤ maxN from ⟨HGJ.out.1.p0, HGJ.out.1.p1, by have h1 : s1.pen.1 + s1.pen.2 ≤ H1 := HGJ.out.1.p2; have := HGJ.out.2; have := sumE_pos HD.out.1 (evN L j NX); have := HSB.out; omega⟩)
          obtain ⟨⟨ly, lm⟩, hlv⟩ : ∃ r, leaveP (s1.pen.1, s1.pen.2) x.sty.bottom x.sty.padBottom = r := ⟨_, rfl⟩
          have HLV := Lib.hid hlv
          have HQE := Lib.hid (show oneS L wd i x s = { s1 with pen := (ly, lm) } by
            rw [oneS_block HX.out hk, HNE2.out, ← HSE.out]
            unfold endS
            rw [← hlv])
          have HPJ := Lib.hid (show PenB 0 (s1.pen.1, s1.pen.2) from PenB.start (by have := HP1.out; unfold NearI farB maxN at *; omega) (by have := HP1.out; unfold NearI farB maxN at *; omega))
          clear hlv hjx
          obtain ⟨⟨nd0, nd1, nd2, nd3, nd4, nd5, nd13⟩, ⟨nd14, nd15, nd16, nd17, nd18, nd19⟩, nl⟩ := nd_see HSH.out HT.out.nd
          rw [hk] at nd0
          obtain ⟨⟨g0, g1, g2, g3, g4⟩, ⟨f0, f1, f2, f3, f4⟩, gl⟩ := gs_of HT.out.box
          go_wp2_with fail
          refine (rleave_to HLV.out HPJ.out (Nat.zero_le _) HNS.out.2.2.1 HNS.out.2.2.2 _).mono ?_
          rintro e we ⟨rfl, hb⟩
          have HTe := Lib.hid (HT.out.on hb)
          clear hb HT g0 g1 g2 g3 g4 f0 f1 f2 f3 f4 gl nd0 nd1 nd2 nd3 nd4 nd5 nd13 nd14 nd15 nd16 nd17 nd18 nd19 nl
          obtain ⟨⟨nd0, nd1, nd2, nd3, nd4, nd5, nd13⟩, ⟨nd14, nd15, nd16, nd17, nd18, nd19⟩, nl⟩ := nd_see HSH.out HTe.out.nd
          rw [hk] at nd0
          obtain ⟨⟨g0, g1, g2, g3, g4⟩, ⟨f0, f1, f2, f3, f4⟩, gl⟩ := gs_of HTe.out.box
          go_wp2_with ((with_reducible refine stop_dst 104 ?_ ?_); exact rfl)
          refine Stop.intro ?_
          have HTf := Lib.hid (HTe.out.pen ly lm)
          clear HTe g0 g1 g2 g3 g4 f0 f1 f2 f3 f4 gl nd0 nd1 nd2 nd3 nd4 nd5 nd13 nd14 nd15 nd16 nd17 nd18 nd19 nl
          generalize (we.setCell ⟨w.heap.size, 3, none⟩ (.int .i64 ly)).setCell ⟨w.heap.size, 4, none⟩ (.int .i64 lm) = Wf at HTf ⊢
          obtain ⟨⟨g0, g1, g2, g3, g4⟩, ⟨f0, f1, f2, f3, f4⟩, gl⟩ := gs_of HTf.out.box
          obtain ⟨⟨z0, z1, z2, z3, z4⟩, ⟨y0, y1, y2, y3, y4⟩, zl⟩ := zero_of HTf.out.res
          obtain ⟨⟨nd0, nd1, nd2, nd3, nd4, nd5, nd13⟩, ⟨nd14, nd15, nd16, nd17, nd18, nd19⟩, nl⟩ := nd_see HSH.out HTf.out.nd
          rw [hk] at nd0
          go_wp2_with fail
          have hY := ((((HTf.out.res.set 0 (.slice A1 n1 c1) (by simp [zero14])).set 1 (.slice A3 m1 c3) (by simp [zero14])).set 2 (.int .i64 0) (by simp [zero14])).set 3 (.int .i64 ly) (by simp [zero14])).set 4 (.int .i64 lm) (by simp [zero14])
          have s0 := hY.2.2 0 _ rfl
          have s1 := hY.2.2 1 _ rfl
          have s2 := hY.2.2 2 _ rfl
          have s3 := hY.2.2 3 _ rfl
          have s4 := hY.2.2 4 _ rfl
          have hO := HTf.out.out rfl rfl (.slice A1 n1 c1) (.slice A3 m1 c3) (.int .i64 0) (.int .i64 ly) (.int .i64 lm)
          rw [HQE.out]
          exact bodyPost_ret (v := .agg #[.slice A1 n1 c1, .slice A3 m1 c3, .int .i64 0, .int .i64 ly, .int .i64 lm]) (by simp [results, Try.results26, go_sem, s0, s1, s2, s3, s4]) rfl hO
  · omega
  · omega
  · omega
end Go.Proofs.Ytipmdhfinlkceaa
