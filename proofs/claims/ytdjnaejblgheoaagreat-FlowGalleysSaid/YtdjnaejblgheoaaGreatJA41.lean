import Derived.Test.YtdjnaejblgheoaaGreatJA40
import Derived.Test.YtdjnaejblgheoaaGreatJA10
import Derived.Test.YtdjnaejblgheoaaGreatJA34
import Derived.Test.YtdjnaejblgheoaaGreatJA33
import Derived.Test.YtdjnaejblgheoaaGreatJA38
/- The walk of the law FlowGalleys, if package flow says what it is asked. -/
namespace Go.Proofs.YtdjnaejblgheoaaGreat
open Go.RowKit
set_option linter.unusedVariables false
set_option linter.unusedSimpArgs false
set_option maxHeartbeats 8000000 in
set_option maxRecDepth 100000 in
theorem flowgalleys_all (H : FlowSays) {L : List Nd} {wd : Int} {A : Option Addr} {n c : Nat} {w : World} (h : Sees w A n L) :
    Calls Tryz.prog 3 #[.slice A n c, .int .i64 wd] w fun e w' => e = .returned (.bool true) ∧ Below w.heap.size w w' := by
  obtain ⟨j0, hj0, hy0, hy1, hy2⟩ := info_parts node_info5
  obtain ⟨v, hv⟩ : ∃ v, longB L = v := ⟨_, rfl⟩
  have HH := Lib.hid H
  have HS := Lib.hid h
  have HLO := Lib.hid (long14_to hv h (c := c))
  cases v with
  | true =>
    clear H h hv
    go_enter Tryz.func3, Tryz.ntmps3
    go_wp2_with fail
    refine HLO.out.mono ?_
    rintro e w1 ⟨rfl, rfl⟩
    go_wp2_with fail
    refine (awake14_any HH.out _).mono ?_
    rintro e w2 ⟨rfl, hb⟩
    have HB := Lib.hid hb
    clear hb
    go_wp2_with fail
    go_ret
    exact ⟨rfl, HB.out⟩
  | false =>
    obtain ⟨h60, hw60⟩ := longB_no hv
    have hn : n ≤ 60 := by rw [← h.len]; exact h60
    have HW := Lib.hid hw60
    obtain ⟨zs, hz1, hz2, hz3⟩ := h
    have HZ := Lib.hid hz1
    have HZL := Lib.hid hz2
    have HZS := Lib.hid hz3
    clear H hv h60 hw60 hz1 hz2 hz3
    go_enter Tryz.func3, Tryz.ntmps3
    go_wp2_with fail
    refine HLO.out.mono ?_
    rintro e w1 ⟨rfl, rfl⟩
    go_wp2_with ((with_reducible refine stop_dst 15 ?_ ?_); exact rfl)
    refine Stop.intro ?_
    have hO : (w.alloc (.cells #[] 40)).ownsRow w.heap.size 40 20 (.slice (some ⟨w.heap.size, 0, none⟩) 0 0) 0 [] := World.ownsRow_made w #[] 0 (Nat.le_refl _) (by decide) rfl
    have hal : Below w.heap.size w (w.alloc (.cells #[] 40)) := (Below.refl _ _).alloc (Nat.le_refl _) _
    have hC := (HZ.out.below hal).cells encM_len (by decide)
    refine wpList_append_cells _ rfl (.tmp 13) (.tmp 14) _ rfl w.heap.size 40 j0 (.agg #[.int .i64 0, .int .i64 0, .int .i64 0, .int .i64 0, .int .i64 0, .int .i64 0, .int .i64 0, .int .i64 0, .int .i64 0, .int .i64 0, .int .i64 0, .int .i64 0, .int .i64 0, .int .i64 0, .int .i64 0, .int .i64 0, .slice none 0 0, .int .i64 0, .int .i64 0, .int .i64 0]) 20 176 Tryz.underlying22 hj0 hy0 hy1 hy2 rfl (by decide) (.slice (some ⟨w.heap.size, 0, none⟩) 0 0) 0 _ rfl hO A n c _ rfl hC (encMs_one zs) (by unfold maxLen; omega) (by omega) (by simp) ?_
    intro A2 c2 w2 hown2 hg2
    rw [Nat.zero_add, List.nil_append] at hown2
    simp only [Nat.zero_add]
    have hb2 : Below w.heap.size w w2 := hal.grown hg2 hal.size (fun r e => owns_block hO r e)
    have HB2 := Lib.hid hb2
    have HOWN := Lib.hid (show Sees w2 A2 n L from ⟨zs, ownsRow_rows encM_len (by decide) hown2, HZL.out, fun i m x h1 h2 => (HZS.out i m x h1 h2).below hb2⟩)
    have HS2 := Lib.hid (HS.out.below hb2)
    clear hO hal hC hown2 hg2 hb2 HZ HZL HZS HS HLO
    go_wp2_with fail
    refine (HH.out.of hn HW.out HOWN.out).mono ?_
    rintro e w3 ⟨B1, n1, k1, B2, n2, k2, rfl, hr1, hr2, hb, _, _⟩
    have HA1 := Lib.hid hr1
    have HF1 := Lib.hid hr2
    have HO3 := Lib.hid (HOWN.out.below hb)
    have HS3 := Lib.hid (HS2.out.below hb)
    have HB3 := Lib.hid (below_then HB2.out hb)
    clear hr1 hr2 hb HOWN HS2 HB2
    go_wp2_with fail
    generalize hU : World.alloc w3 _ = U
    have hal : Below w3.heap.size w3 U := by rw [← hU]; exact (Below.refl _ _).alloc (Nat.le_refl _) _
    have HX := Lib.hid (show Box U w3.heap.size [.slice B1 n1 k1, .slice B2 n2 k2, .int .i64 (galR L wd).high] by rw [← hU]; exact Box.new w3 [.slice B1 n1 k1, .slice B2 n2 k2, .int .i64 (galR L wd).high] _)
    have HA1u := Lib.hid (HA1.out.below hal)
    have HF1u := Lib.hid (HF1.out.below hal)
    have HO3u := Lib.hid (HO3.out.below hal)
    have HS3u := Lib.hid (HS3.out.below hal)
    have HBu := Lib.hid (below_then HB3.out hal)
    clear hU hal HA1 HF1 HO3 HS3 HB3
    refine (rof14_to hn HW.out HS3u.out).mono ?_
    rintro e w4 ⟨B3, n3, k3, B4, n4, k4, rfl, hr1, hr2, hb, _, _⟩
    have HA2 := Lib.hid hr1
    have HF2 := Lib.hid hr2
    have HX4 := Lib.hid (HX.out.below hb)
    have HA14 := Lib.hid (HA1u.out.below hb)
    have HF14 := Lib.hid (HF1u.out.below hb)
    have HO4 := Lib.hid (HO3u.out.below hb)
    have HS4 := Lib.hid (HS3u.out.below hb)
    have HB4 := Lib.hid (below_then HBu.out hb)
    clear hr1 hr2 hb HX HA1u HF1u HO3u HS3u HBu
    go_wp2_with ((with_reducible refine stop_dst 30 ?_ ?_); exact rfl)
    refine Stop.intro ?_
    generalize hU : World.alloc w4 _ = U4
    have hal : Below w4.heap.size w4 U4 := by rw [← hU]; exact (Below.refl _ _).alloc (Nat.le_refl _) _
    have HY := Lib.hid (show Box U4 w4.heap.size [.slice B3 n3 k3, .slice B4 n4 k4, .int .i64 (galR L wd).high] by rw [← hU]; exact Box.new w4 [.slice B3 n3 k3, .slice B4 n4 k4, .int .i64 (galR L wd).high] _)
    have HX5 := Lib.hid (HX4.out.below hal)
    have HA15 := Lib.hid (HA14.out.below hal)
    have HF15 := Lib.hid (HF14.out.below hal)
    have HA25 := Lib.hid (HA2.out.below hal)
    have HF25 := Lib.hid (HF2.out.below hal)
    have HO5 := Lib.hid (HO4.out.below hal)
    have HS5 := Lib.hid (HS4.out.below hal)
    have HB5 := Lib.hid (below_then HB4.out hal)
    clear hU hal HX4 HA14 HF14 HA2 HF2 HO4 HS4 HB4
    have x0 := HX5.out.2.2 0 _ rfl
    have x1 := HX5.out.2.2 1 _ rfl
    have x2 := HX5.out.2.2 2 _ rfl
    have y0 := HY.out.2.2 0 _ rfl
    have y1 := HY.out.2.2 1 _ rfl
    have y2 := HY.out.2.2 2 _ rfl
    have hee : ((galR L wd).err == (galR L wd).err) = true := by simp
    generalize (galR L wd).err = er at hee ⊢
    go_wp2_with fail
    refine (gal_same HA15.out HA25.out HF15.out HF25.out).mono ?_
    rintro e w6 ⟨rfl, hb⟩
    have HO6 := Lib.hid (HO5.out.below hb)
    have HS6 := Lib.hid (HS5.out.below hb)
    have HB6 := Lib.hid (below_then HB5.out hb)
    clear hb x0 x1 x2 y0 y1 y2
    go_wp2_with fail
    refine (rsame_to (ndsB_self L) _ HO6.out HS6.out).mono ?_
    rintro e w7 ⟨rfl, hb⟩
    have HB7 := Lib.hid (below_then HB6.out hb)
    clear hb
    go_wp2_with fail
    refine (awake14_any HH.out _).mono ?_
    rintro e w8 ⟨rfl, hb⟩
    have HB8 := Lib.hid (below_then HB7.out hb)
    clear hb
    go_wp2_with fail
    go_ret
    exact ⟨rfl, HB8.out⟩
end Go.Proofs.YtdjnaejblgheoaaGreat
/- What package flow is asked to say, the program says. -/
namespace Go.Proofs.YtdjnaejblgheoaaGreat
open Go.RowKit
set_option linter.unusedVariables false
set_option linter.unusedSimpArgs false
theorem ordL_of {L : List Nd} (h : IsDoc L) : ordL L = L := by unfold ordL; rw [if_pos ((docB_iff L).2 h)]
theorem wk_start {w1 W : World} {An Ar : Option Addr} {nn cn nr cr : Nat} (ho : On w1 W) (hX : Box W w1.heap.size (wkV .start none 0 0 none 0 0 An nn cn Ar nr cr)) : Wk w1 An nn cn Ar nr cr W .start none 0 0 none 0 0 :=
  ⟨ho, hX, ⟨owns_nil _ _ _ _, owns_nil _ _ _ _, Apart.nil, rfl, rfl⟩⟩
theorem may14_to {n : Int} {v : Bool} (hv : (decide (1 ≤ n) && decide (n ≤ 1099511627776)) = v) (w : World) : Calls Tryz.prog 23 #[.int .i64 n] w fun e w' => e = .returned (.bool v) ∧ w = w' := may_to hv w
set_option maxHeartbeats 8000000 in
set_option maxRecDepth 100000 in
theorem of14_to {L : List Nd} {wd : Int} {An : Option Addr} {nn cn : Nat} (hnn : nn ≤ 60) (hw60 : ∀ y ∈ L, y.words.length ≤ 60) {w : World} (h : Sees w An nn L) :
    Calls Tryz.prog 9 #[.slice An nn cn, .int .i64 wd] w (GalSeen w (galR L wd)) := by
  obtain ⟨f, hf⟩ : ∃ f, chkV L = f := ⟨_, rfl⟩
  obtain ⟨v, hv⟩ : ∃ v, (decide (1 ≤ wd) && decide (wd ≤ 1099511627776)) = v := ⟨_, rfl⟩
  have HCK := Lib.hid (show ∀ W', On w W' → Calls Tryz.prog 13 #[.slice An nn cn] W' fun e w' => e = .returned (.int .i64 f) ∧ Below W'.heap.size W' w' from fun W' ho => pCheck_to hf ⟨h.on ho, by omega⟩)
  have HF := Lib.hid hf
  have HS := Lib.hid h
  have HW := Lib.hid hw60
  have HV := Lib.hid hv
  have HMY := Lib.hid (fun (W : World) => may14_to hv W)
  clear hf h hw60 hv
  cases v with
  | false =>
    have HE := Lib.hid (show galR L wd = ⟨[], [], 0, 4⟩ by
      unfold galR
      rw [if_pos]
      have h9 := HV.out
      simp only [Bool.and_eq_false_iff, decide_eq_false_iff_not] at h9
      unfold maxX
      omega)
    go_enter Tryz.func9, Tryz.ntmps9
    go_wp2_with fail
    refine (HMY.out _).mono ?_
    rintro e w1 ⟨rfl, rfl⟩
    go_wp2_with fail
    exact bodyPost_ret (v := .tuple #[.agg #[.slice none 0 0, .slice none 0 0, .int .i64 0], .int .i64 4]) (by simp [results, Tryz.results9, go_sem]) rfl (by rw [HE.out]; exact ⟨none, 0, 0, none, 0, 0, rfl, Rows.nil _ _, Rows.nil _ _, by go_grown, (fun q hq => by cases hq), (fun q hq => by cases hq)⟩)
  | true =>
    have hwb : 1 ≤ wd ∧ wd ≤ maxX := by
      have h9 := HV.out
      simp only [Bool.and_eq_true, decide_eq_true_eq] at h9
      unfold maxX
      exact h9
    have HWB := Lib.hid hwb
    clear hwb HV
    go_enter Tryz.func9, Tryz.ntmps9
    go_wp2_with fail
    generalize hW : World.alloc w _ = W
    have HR0 := Lib.hid (show Box W w.heap.size zero3 by rw [← hW]; exact Box.new w zero3 _)
    have HB0 := Lib.hid (show On w W by rw [← hW]; exact On.alloc (On.refl w) _)
    clear hW
    refine (HMY.out _).mono ?_
    rintro e w1 ⟨rfl, rfl⟩
    go_wp2_with fail
    refine (HCK.out W HB0.out).mono ?_
    rintro e w2 ⟨rfl, hb⟩
    have HR2 := Lib.hid (HR0.out.below hb)
    have HB2 := Lib.hid (On.step HB0.out hb)
    clear hb HR0 HB0 HCK HMY
    by_cases hf0 : f = 0
    case neg =>
      have HE := Lib.hid (show galR L wd = ⟨[], [], 0, f⟩ by unfold galR; rw [if_neg (by have := HWB.out; omega), if_pos (by rw [HF.out]; exact hf0), HF.out])
      have hfn : (f != 0) = true := by simpa using hf0
      clear hf0
      obtain ⟨⟨r0, r1, r2⟩, ⟨z0, z1, z2⟩, zl⟩ := zero3_of HR2.out
      go_wp2_with fail
      have hY := ((HR2.out.set 0 (.slice none 0 0) (by simp [zero3])).set 1 (.slice none 0 0) (by simp [zero3])).set 2 (.int .i64 0) (by simp [zero3])
      have s0 := hY.2.2 0 _ rfl
      have s1 := hY.2.2 1 _ rfl
      have s2 := hY.2.2 2 _ rfl
      exact bodyPost_ret (v := .tuple #[.agg #[.slice none 0 0, .slice none 0 0, .int .i64 0], .int .i64 f]) (by simp [results, Tryz.results9, go_sem, s0, s1, s2]) rfl (by rw [HE.out]; exact ⟨none, 0, 0, none, 0, 0, rfl, Rows.nil _ _, Rows.nil _ _, ((Below.setCell (show Below w.heap.size w w2 from HB2.out) (by simp) _).setCell (by simp) _).setCell (by simp) _, (fun q hq => by cases hq), (fun q hq => by cases hq)⟩)
    subst hf0
    have HE := Lib.hid (show galR L wd = ⟨(galS L wd).ams, floatsS (galS L wd), highS (galS L wd), 0⟩ by unfold galR; rw [if_neg (by have := HWB.out; omega), if_neg (by rw [HF.out]; simp)])
    obtain ⟨hd, hsum⟩ := chk_doc HF.out
    have hlen := HS.out.len
    have HD := Lib.hid hd
    have HSU := Lib.hid (Int.le_trans (sumE_all hd.2.nested hd.1) hsum)
    have HRM := Lib.hid (tRooms_to (c := cn) (show roomsI (ordL L) wd = roomsTo L wd nn by rw [ordL_of hd]; unfold roomsI; rw [if_neg (by have := HWB.out; omega), hlen]) (⟨HS.out.on HB2.out, by omega⟩ : PreV L w2 An nn))
    have HLN := Lib.hid hlen
    clear hd hsum HF hlen
    go_wp2_with fail
    refine HRM.out.mono ?_
    rintro e w3 ⟨Ar, nr, cr, rfl, hnr, hrm, hb⟩
    obtain rfl : nr = nn := by rw [hnr, roomsTo_len]
    have HR3 := Lib.hid (HR2.out.below hb)
    have HB3 := Lib.hid (On.step HB2.out hb)
    have HRR := Lib.hid hrm
    clear hb hrm hnr HR2 HB2 HRM
    go_wp2_with fail
    generalize hU : World.alloc w3 _ = U
    have HX := Lib.hid (show Box U w3.heap.size (wkV .start none 0 0 none 0 0 An nr cn Ar nr cr) by rw [← hU]; exact Box.new w3 (wkV .start none 0 0 none 0 0 An nr cn Ar nr cr) _)
    have HOU := Lib.hid (show On w3 U by rw [← hU]; exact On.alloc (On.refl w3) _)
    clear hU
    have hrs : w.heap.size < w3.heap.size := HR3.out.1
    have hel : (evN L 0 nr).length ≤ 120 := by have h9 := evN_len HD.out.2.nested nr 0 nr (by omega) (by rw [← HLN.out]; exact Clo.all HD.out.2.nested); omega
    have HGO := Lib.hid (run_ok HD.out.1 HWB.out.1 HWB.out.2 (evN L 0 nr) GsOk.start)
    have hgl := runS_len (w := wd) HW.out (evN L 0 nr) .start
    have hgs : runS L wd .start (evN L 0 nr) = galS L wd := by unfold galS; rw [HLN.out]
    rw [hgs] at hgl HGO
    have HGL := Lib.hid (show (galS L wd).ams.length ≤ 10000 ∧ (galS L wd).fls.length ≤ 1000 from ⟨by have h9 := hgl.1; have e : (Gs.start).ams.length = 0 := rfl; omega, by have h9 := hgl.2.1; have e : (Gs.start).fls.length = 0 := rfl; omega⟩)
    have HAN := Lib.hid (show ∀ f ∈ (galS L wd).fls, 0 ≤ f.anchor by rw [← hgs]; exact run_anch _ _ (fun f hf => by cases hf))
    have HSM := Lib.hid (show 0 + sumE L (evN L 0 nr) ≤ maxN by have h9 := HSU.out; rw [HLN.out] at h9; omega)
    have HWK := Lib.hid (wwalk14_to HD.out HWB.out.1 HWB.out.2 HW.out (show nr ≤ 1000 by omega) (cn := cn) (cr := cr) (HS.out.on HB3.out) HRR.out nr 0 nr (by omega) (Nat.zero_le _) (by rw [← HLN.out]; exact Clo.all HD.out.2.nested))
    have HGS := Lib.hid hgs
    have HHM := Lib.hid (show 0 + sumE L (evN L 0 nr) ≤ maxN from HSM.out)
    clear hgl hgs
    refine (HWK.out 0 (nr : Int) rfl rfl 0 .start none 0 0 none 0 0 U GsOk.start HSM.out (by show 0 + _ ≤ _; omega) (by show 0 + _ ≤ _; omega) (wk_start HOU.out HX.out)).mono ?_
    rintro e w4 ⟨rfl, h4⟩
    rw [HGS.out] at h4
    obtain ⟨A, n, c, A2, m, c2, hW4, hF4, hN4⟩ := h4
    have HR4 := Lib.hid hF4
    have HW4 := Lib.hid hW4
    have hna := hW4.gs.na
    have hnf := hW4.gs.nf
    have hn1 : n ≤ 100000 := by have := HGL.out.1; omega
    have hm1 : m ≤ 1000 := by have := HGL.out.2; omega
    have HRA := Lib.hid (show ∀ q, A = some q → w3.heap.size < q.block from fun q hq => by subst hq; exact hW4.ra q.block rfl)
    have HRF := Lib.hid (show ∀ q, A2 = some q → w3.heap.size < q.block from fun q hq => by subst hq; exact hW4.rf q.block rfl)
    clear hW4 hF4 hN4 HX HOU HR4 hna hnf HWK
    go_wp2_with fail
    refine (wanchor14_to hn1 hm1 HAN.out HW4.out).mono ?_
    rintro e w5 ⟨rfl, hX5, hA5, hL5, hO5⟩
    have HX5 := Lib.hid hX5
    have HA5 := Lib.hid hA5
    have HL5 := Lib.hid hL5
    have HR5 := Lib.hid (HR3.out.below hO5)
    have HB5 := Lib.hid (On.step HB3.out hO5)
    clear hX5 hA5 hL5 hO5 HW4 HR3 HB3
    go_wp2_with fail
    refine (wend14_to HGO.out HHM.out rfl HX5.out HL5.out).mono ?_
    rintro e w6 ⟨rfl, hb⟩
    have HX6 := Lib.hid (HX5.out.below hb)
    have HA6 := Lib.hid (HA5.out.below hb)
    have HL6 := Lib.hid (HL5.out.below hb)
    have HR6 := Lib.hid (HR5.out.below hb)
    have HB6 := Lib.hid (On.step HB5.out hb)
    clear hb HX5 HA5 HL5 HR5 HB5
    have k0 : w6.cell? ⟨w3.heap.size, 0, none⟩ = some (.slice A n c) := HX6.out.2.2 0 _ rfl
    have k1 : w6.cell? ⟨w3.heap.size, 1, none⟩ = some (.slice A2 m c2) := HX6.out.2.2 1 _ rfl
    have k2 : w6.cell? ⟨w3.heap.size, 2, none⟩ = some (.int .i64 0) := HX6.out.2.2 2 _ rfl
    have f2 : w6.frozen? ⟨w3.heap.size, 2, none⟩ = false := HX6.out.2.1 2
    obtain ⟨⟨r0, r1, r2⟩, ⟨z0, z1, z2⟩, zl⟩ := zero3_of HR6.out
    have hne1 : w.heap.size ≠ w3.heap.size := by omega
    have hne2 : w3.heap.size ≠ w.heap.size := by omega
    go_wp2_with fail
    have hY := (((HR6.out.set_other hne2 2 (.int .i64 (highS (galS L wd)))).set 0 (.slice A n c) (by simp [zero3])).set 1 (.slice A2 m c2) (by simp [zero3])).set 2 (.int .i64 (highS (galS L wd))) (by simp [zero3])
    have s0 := hY.2.2 0 _ rfl
    have s1 := hY.2.2 1 _ rfl
    have s2 := hY.2.2 2 _ rfl
    exact bodyPost_ret (v := .tuple #[.agg #[.slice A n c, .slice A2 m c2, .int .i64 (highS (galS L wd))], .int .i64 0]) (by simp [results, Tryz.results9, go_sem, s0, s1, s2]) rfl (by
      rw [HE.out]
      have ra : ∀ q, A = some q → some w3.heap.size ≠ some q.block := fun q hq e => by have := HRA.out q hq; injection e with e; omega
      have ra2 : ∀ q, A = some q → some w.heap.size ≠ some q.block := fun q hq e => by have := HRA.out q hq; injection e with e; omega
      have rf : ∀ q, A2 = some q → some w3.heap.size ≠ some q.block := fun q hq e => by have := HRF.out q hq; injection e with e; omega
      have rf2 : ∀ q, A2 = some q → some w.heap.size ≠ some q.block := fun q hq e => by have := HRF.out q hq; injection e with e; omega
      exact ⟨A, n, c, A2, m, c2, rfl, rows_far (rows_far (rows_far (rows_far HA6.out (grownBy_setCellN _ _ _ _) ra) (grownBy_setCellN _ _ _ _) ra2) (grownBy_setCellN _ _ _ _) ra2) (grownBy_setCellN _ _ _ _) ra2,
        rows_far (rows_far (rows_far (rows_far HL6.out (grownBy_setCellN _ _ _ _) rf) (grownBy_setCellN _ _ _ _) rf2) (grownBy_setCellN _ _ _ _) rf2) (grownBy_setCellN _ _ _ _) rf2,
        (((Below.setCell (show Below w.heap.size w w6 from HB6.out) (Nat.le_of_lt hrs) _).setCell (by simp) _).setCell (by simp) _).setCell (by simp) _, fun q hq => by have := HRA.out q hq; omega, fun q hq => by have := HRF.out q hq; omega⟩)
theorem flowSays : FlowSays where
  of := fun hn hw h => of14_to hn hw h
end Go.Proofs.YtdjnaejblgheoaaGreat
/- The walk of the law FlowGalleys, for the program's package flow. -/
namespace Go.Proofs.YtdjnaejblgheoaaGreat
set_option linter.unusedVariables false
open Go.RowKit
theorem flowgalleys_law (A : Option Addr) (n c : Nat) (l : List Nd) (hc : n ≤ c ∧ c ≤ 9223372036854775807) (wd : Int) (hwd : -9223372036854775808 ≤ wd ∧ wd ≤ 9223372036854775807) (w : World) (hl : Sees w A n l) :
    Calls Tryz.prog 3 #[.slice A n c, .int .i64 wd] w fun e w' => e = .returned (.bool true) ∧ Below w.heap.size w w' := flowgalleys_all flowSays hl
end Go.Proofs.YtdjnaejblgheoaaGreat
