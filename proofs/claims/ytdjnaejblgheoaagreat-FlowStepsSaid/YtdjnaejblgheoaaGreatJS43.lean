import Derived.Test.YtdjnaejblgheoaaGreatJS42
import Derived.Test.YtdjnaejblgheoaaGreatJS22
import Derived.Test.YtdjnaejblgheoaaGreatJS06
import Derived.Test.YtdjnaejblgheoaaGreatJS36
import Derived.Test.YtdjnaejblgheoaaGreatJS27
/- The walk of the law FlowSteps, if package flow says what it is asked. (Written by program: tools/drafts/genstepsw14.py.) -/
namespace Go.Proofs.YtdjnaejblgheoaaGreat
open Go.RowKit
set_option linter.unusedVariables false
set_option linter.unusedSimpArgs false
theorem ordL_doc14 {L : List Nd} (h : IsDoc L) : ordL L = L := by unfold ordL; rw [if_pos ((docB_iff L).2 h)]
set_option maxHeartbeats 16000000 in
set_option maxRecDepth 100000 in
theorem flowsteps_all (H : FlowSays) {L : List Nd} {wd : Int} {A : Option Addr} {n c : Nat} {w : World} (h : Sees w A n L) :
    Calls Tryz.prog 6 #[.slice A n c, .int .i64 wd] w fun e w' => e = .returned (.bool true) ∧ Below w.heap.size w w' := by
  obtain ⟨v, hv⟩ : ∃ v, longB L = v := ⟨_, rfl⟩
  have HH := Lib.hid H
  have HS := Lib.hid h
  have HLO := Lib.hid (long14_to hv h (c := c))
  cases v with
  | true =>
    clear H h hv
    go_enter Tryz.func6, Tryz.ntmps6
    go_wp2_with fail
    refine HLO.out.mono ?_
    rintro e w1 ⟨rfl, rfl⟩
    go_wp2_with fail
    refine (awake14_any HH.out _).mono ?_
    rintro e w2 ⟨rfl, hb⟩
    have HB := Lib.hid hb
    clear hb
    go_wp2_with fail
    go_ret
    exact ⟨rfl, HB.out⟩
  | false =>
    obtain ⟨h60, hw60⟩ := longB_no hv
    have hn : n ≤ 60 := by rw [← h.len]; exact h60
    have HL60 := Lib.hid h60
    have HW := Lib.hid hw60
    have HLN := Lib.hid h.len
    clear H hv h60 hw60 h
    go_enter Tryz.func6, Tryz.ntmps6
    go_wp2_with fail
    refine HLO.out.mono ?_
    rintro e w1 ⟨rfl, rfl⟩
    go_wp2_with fail
    refine (HH.out.of hn HW.out HS.out).mono ?_
    rintro e w3 ⟨B1, n1, k1, B2, n2, k2, rfl, hr1, hr2, hb, _, _⟩
    have HB3 := Lib.hid hb
    rcases gal_cases L wd with ⟨f, hg, hf0, hfc⟩ | ⟨hg, hw1, hw2, hd, hsm, hck⟩
    · rw [hg]
      simp only
      have hfn : (f != 0) = true := by simpa using hf0
      clear hr1 hr2 hb hg hf0 hfc
      go_wp2_with fail
      refine (awake14_any HH.out _).mono ?_
      rintro e w6 ⟨rfl, hb⟩
      have HB6 := Lib.hid (On.step (On.alloc (show On w w3 from HB3.out) _) hb)
      clear hb
      go_wp2_with fail
      go_ret
      exact ⟨rfl, HB6.out⟩
    rw [hg] at hr1 hr2 ⊢
    simp only at hr1 hr2 ⊢
    have hlen := galS_len (wd := wd) hd HL60.out HW.out
    have hn1 : n1 ≤ 7200 := by have := hr1.1; omega
    have hn2e : (galS L wd).fls.length = n2 := by have h1 := hr2.1; unfold floatsS at h1; rw [List.length_map] at h1; exact h1
    have HN1 := Lib.hid (show (galS L wd).ams.length = n1 from hr1.1)
    have HN2 := Lib.hid hn2e
    have HR1 := Lib.hid hr1
    have HD := Lib.hid hd
    have HSM := Lib.hid hsm
    have HCK := Lib.hid hck
    obtain ⟨hi, hhi⟩ : ∃ hi, highS (galS L wd) = hi := ⟨_, rfl⟩
    rw [hhi]
    have HHI := Lib.hid hhi
    clear hr1 hr2 hb hg hd hsm hlen hhi hck hn2e
    by_cases hn2 : 0 < n2
    · have hn3 : (0 : Int) < (n2 : Int) := by omega
      go_wp2_with fail
      refine (awake14_any HH.out _).mono ?_
      rintro e w6 ⟨rfl, hb⟩
      have HB6 := Lib.hid (On.step (On.alloc (show On w w3 from HB3.out) _) hb)
      clear hb
      go_wp2_with fail
      go_ret
      exact ⟨rfl, HB6.out⟩
    have d0 : decide ((0 : Int) < (n2 : Int)) = false := decide_eq_false (by omega)
    have d1 : ¬ 0 < n2 := hn2
    have d2 : decide (0 < n2) = false := decide_eq_false hn2
    have hfl : (galS L wd).fls = [] := List.length_eq_zero_iff.1 (by have := HN2.out; omega)
    clear hn2
    have hrn := run_nil (fun i => (room_bd HD.out.1 hw1 hw2 i).2.2.1) HW.out (evN L 0 L.length) .start hfl
    obtain ⟨_, hpen, l0, hams, hys, hat⟩ := hrn
    have hpen2 : (galS L wd).pen = penL (0, 0) (stpsE L wd (evN L 0 L.length)) := hpen
    have hams2 : (galS L wd).ams = l0 := by show (runS L wd .start (evN L 0 L.length)).ams = l0; rw [hams]; rfl
    have hhp : hi = (galS L wd).pen.1 + (galS L wd).pen.2 := by rw [← HHI.out]; unfold highS; rw [hfl]; rfl
    rw [← hams2] at hys hat
    have HYS := Lib.hid (show (galS L wd).ams.map (·.y) = placesL (0, 0) (stpsE L wd (evN L 0 L.length)) from hys)
    have HAT := Lib.hid hat
    obtain ⟨⟨py, pm⟩, hpp⟩ : ∃ q, penL (0, 0) (stpsE L wd (evN L 0 L.length)) = q := ⟨_, rfl⟩
    rw [hpen2, hpp] at hhp
    simp only at hhp
    have HPP := Lib.hid hpp
    have hpush := push_all HD.out.1 (wd := wd) (evN L 0 L.length)
    have hnear := push_near hpush HSM.out
    have HNR := Lib.hid hnear
    have hpn := hnear.2 (stpsE L wd (evN L 0 L.length)).length
    rw [List.take_length, hpp] at hpn
    have HPN := Lib.hid (show NearI py ∧ NearI pm from ⟨by have h9 := hpn.1; unfold NearI farB; simp only at h9; omega, hpn.2⟩)
    have hsl := stps_len (wd := wd) HW.out (evN L 0 L.length)
    have hel := evN_len HD.out.2.nested L.length 0 L.length (by omega) (Clo.all HD.out.2.nested)
    have HSL := Lib.hid (show (stpsE L wd (evN L 0 L.length)).length ≤ 100000 by have := HL60.out; omega)
    subst hhp
    clear hfl hpen hams hys hat hpen2 hams2 hpp hpush hnear hpn hsl hel l0
    go_wp2_with fail
    generalize hU : World.alloc w3 _ = U
    have HX := Lib.hid (show Box U w3.heap.size [.slice B1 n1 k1, .slice B2 n2 k2, .int .i64 (py + pm)] by rw [← hU]; exact Box.new w3 [.slice B1 n1 k1, .slice B2 n2 k2, .int .i64 (py + pm)] _)
    have hal : Below w3.heap.size w3 U := by rw [← hU]; exact (Below.refl _ _).alloc (Nat.le_refl _) _
    have HBU := Lib.hid (show On w U from below_then HB3.out hal)
    have HR1u := Lib.hid (HR1.out.below hal)
    clear hU hal HB3 HR1
    generalize w3.heap.size = S5 at HX ⊢
    have HPV := Lib.hid (show PreV L U A n from ⟨HS.out.on HBU.out, by omega⟩)
    have HRM := Lib.hid (tRooms_to (c := c) (show roomsI (ordL L) wd = roomsTo L wd n by rw [ordL_doc14 HD.out]; unfold roomsI; rw [if_neg (by omega), HLN.out]) HPV.out)
    refine HRM.out.mono ?_
    rintro e w4 ⟨Ar, nr, cr, rfl, hnr, hrm, hb⟩
    obtain rfl : nr = n := by rw [hnr, roomsTo_len]
    have HRR := Lib.hid hrm
    have HX4 := Lib.hid (HX.out.below hb)
    have HB4 := Lib.hid (On.step HBU.out hb)
    have HR14 := Lib.hid (HR1u.out.below hb)
    clear hb hrm hnr HRM HPV HX HBU HR1u d0 d1 d2
    have hnn : ((nr : Int) != (nr : Int)) = false := by simp
    go_wp2_with fail
    refine (pCheck_to HCK.out (⟨HS.out.on HB4.out, by omega⟩ : PreV L w4 A nr)).mono ?_
    rintro e w5 ⟨rfl, hb⟩
    have HRR5 := Lib.hid (HRR.out.below hb)
    have HX5 := Lib.hid (HX4.out.below hb)
    have HB5 := Lib.hid (On.step HB4.out hb)
    have HR15 := Lib.hid (HR14.out.below hb)
    clear hb HRR HX4 HB4 HR14
    go_wp2_with fail
    refine (lsteps14_to HD.out hw1 hw2 HW.out (show nr ≤ 1000 by omega) (cr := cr) (cn := c) (HS.out.on HB5.out) HRR5.out nr 0 nr (by omega) (Nat.zero_le _) (by rw [← HLN.out]; exact Clo.all HD.out.2.nested) 0 (nr : Int) rfl rfl w5 (On.refl w5)).mono ?_
    rintro e w6 ⟨As, ns, cs, rfl, hns, hos, hb⟩
    have HST := Lib.hid (show Rows 3 encSt w6 As ns (stpsE L wd (evN L 0 L.length)) by rw [HLN.out]; exact ownsRow_rows encSt_len (by decide) hos)
    have hns2 : ns ≤ 100000 := by rw [← HST.out.1]; exact HSL.out
    have HRR6 := Lib.hid (HRR5.out.below hb)
    have HX6 := Lib.hid (HX5.out.below hb)
    have HB6 := Lib.hid (On.step HB5.out hb)
    have HR16 := Lib.hid (HR15.out.below hb)
    clear hb hos hns HRR5 HX5 HB5 HR15
    go_wp2_with fail
    refine (run13_near HPP.out (zs := (galS L wd).ams.map (·.y)) HYS.out.symm (fun k hk => ⟨0, by omega, HNR.out.2 k⟩) HNR.out.1 hns2 HST.out).mono ?_
    rintro e w7 ⟨At, nt, ct, rfl, hnt, hint, hb, _⟩
    have hnt2 : nt = n1 := by rw [hnt, List.length_map]; exact HN1.out
    subst hnt2
    have HIN := Lib.hid hint
    have HRR7 := Lib.hid (HRR6.out.below hb)
    have HX7 := Lib.hid (HX6.out.below hb)
    have HB7 := Lib.hid (On.step HB6.out hb)
    have HR17 := Lib.hid (HR16.out.below hb)
    clear hb hint hnt HRR6 HX6 HB6 HR16 HST HNR
    go_wp2_with fail
    generalize hU : World.alloc w7 _ = V
    have HPB := Lib.hid (show Box V w7.heap.size [.int .i64 py, .int .i64 pm] by rw [← hU]; exact Box.new w7 [.int .i64 py, .int .i64 pm] _)
    have hal : Below w7.heap.size w7 V := by rw [← hU]; exact (Below.refl _ _).alloc (Nat.le_refl _) _
    clear hU
    have HINv := Lib.hid (HIN.out.below (B := w7.heap.size) hal rfl)
    have HRRv := Lib.hid (HRR7.out.below hal)
    have HXv := Lib.hid (HX7.out.below hal)
    have HBv := Lib.hid (On.step HB7.out hal)
    have HR1v := Lib.hid (HR17.out.below hal)
    clear hal HIN HRR7 HX7 HB7 HR17
    obtain ⟨⟨x0, x1, x2⟩, _⟩ := gal3_of HXv.out
    obtain ⟨p0, p1, _, _, _⟩ := HPB.out.of2
    have x0 := OnW.cell x0
    have x2 := OnW.cell x2
    have p0 := OnW.cell p0
    have p1 := OnW.cell p1
    have hb1 : ((nt : Int) != (nt : Int)) = false := by simp
    have hb2 : (py + pm != py + pm) = false := by simp
    refine wp_region_on (by kernel_rfl) (by kernel_rfl) ?_
    repeat (go_big_quiet_step ((go_at_call 19; with_reducible exact Calls.on_of (at13_to HPN.out.1 HPN.out.2))))
    refine wpQuiet_nil ?_
    intro w8 hw'
    obtain ⟨⟨w9, hOn⟩, hw''⟩ := hw'
    obtain rfl : w8 = w9 := hw''
    have HO8 := Lib.hid hOn
    clear hOn x0 x1 x2 p0 p1 hb1 hb2 hnn
    go_wp2_with fail
    go_loopw [10] (fun iv wr => ∃ i : Nat, iv = .int .i64 (i : Int) ∧ i ≤ nt ∧ Hid (On V wr)) (fun iv _ => nt - (intOf iv).toNat)
    case atStart => exact ⟨0, rfl, Nat.zero_le _, HO8⟩
    case round =>
      obtain ⟨i, rfl, hin, HO⟩ := hrel
      by_cases hlt : i < nt
      · have hlt2 : (i : Int) < (nt : Int) := by omega
        have hi0 : (0 : Int) ≤ (i : Int) := by omega
        obtain ⟨b1, o1, y, rfl, hb1', hy, hyc⟩ := (HR1v.out.on HO.out).at_ hlt
        obtain ⟨b2, o2, hAt, hb2', hzc⟩ := (HINv.out.below (B := V.heap.size) HO.out rfl).2.2 (show 0 < nt by omega)
        subst hAt
        obtain ⟨k, hk1, hk2, hk3⟩ := HAT.out y (List.mem_of_getElem? hy)
        have hkn : k < nr := by rw [← HLN.out]; exact hk2
        obtain ⟨b3, o3, ⟨rx, ru⟩, rfl, hb3', hrz, hrc⟩ := (HRRv.out.on HO.out).at_ hkn
        have hrx : rx = (roomP L wd k).1 := by rw [roomsTo_get hkn] at hrz; injection hrz with hrz; rw [hrz]
        have hz := hzc i hlt
        have hze : ((galS L wd).ams.map (·.y))[i]?.getD 0 = y.y := by rw [List.getElem?_map, hy]; rfl
        simp only [List.getElem?_map, hy, Option.map_some, Option.getD_some] at hz
        have y1 := hyc 1 _ rfl
        have y4 := hyc 4 _ rfl
        have y5 := hyc 5 _ rfl
        have r0 := hrc 0 _ rfl
        simp only [Nat.add_zero] at r0
        obtain ⟨f0, f1, f2, f3, f4, f5, f6, f7⟩ := y
        simp only at hk1 hk3 hz y1 y4 y5
        rw [← hrx] at hk3
        subst hk1 hk3
        obtain ⟨⟨x0, x1, x2⟩, _⟩ := gal3_of (HXv.out.below HO.out)
        have x0 := OnW.cell x0
        have y1 := OnW.cell y1
        have y4 := OnW.cell y4
        have y5 := OnW.cell y5
        have r0 := OnW.cell r0
        have hz := OnW.cell hz
        have hk0 : (0 : Int) ≤ (k : Int) := by omega
        have hkn2 : (k : Int) < (nr : Int) := by omega
        have c1 : (f5 != f5) = false := by simp
        have c2 : decide ((k : Int) < 0) = false := decide_eq_false (by omega)
        have c3 : decide ((nr : Int) ≤ (k : Int)) = false := decide_eq_false (by omega)
        have c4 : (f4 != f4) = false := by simp
        have c5 : decide (nr ≤ k) = false := decide_eq_false (by omega)
        have c6 : decide ((k : Int) ≥ (nr : Int)) = false := decide_eq_false (by omega)
        have c7 : ¬ nr ≤ k := by omega
        have hwi : IntKind.i64.wrap ((i : Int) + 1) = (i : Int) + 1 := IntWalk.i64_in _ (by omega)
        clear hy hyc hzc hrz hrc hrx hze x1 x2 hb1' hb2' hb3' hk2
        go_wp2_with fail
        refine wp_region_on (by kernel_rfl) (by kernel_rfl) ?_
        try dsimp only [List.append]
        repeat (go_big_quiet_step (fail))
        refine wpQuiet_nil ?_
        intro w5 hw'
        obtain ⟨⟨w6, hOn⟩, hw''⟩ := hw'
        obtain rfl : w5 = w6 := hw''
        have HO5 := Lib.hid (On.step HO.out hOn)
        clear hOn x0 y1 y4 y5 r0 hz
        go_wp2_with fail
        go_roundw
        case rel => exact ⟨i + 1, by go_num, by omega, HO5⟩
        case measure => simp [intOf] <;> omega
      · have hie : i = nt := by omega
        have hge : (nt : Int) ≤ (i : Int) := by omega
        go_wp2_with fail
        refine (awake14_any HH.out _).mono ?_
        rintro e w9 ⟨rfl, hb⟩
        have HB9 := Lib.hid (On.step (on_then HBv.out HO.out) hb)
        clear hb
        go_wp2_with fail
        go_ret
        exact ⟨rfl, HB9.out⟩
end Go.Proofs.YtdjnaejblgheoaaGreat
