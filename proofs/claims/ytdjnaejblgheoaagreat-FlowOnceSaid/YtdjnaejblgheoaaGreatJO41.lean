import Derived.Test.YtdjnaejblgheoaaGreatJO40
import Derived.Test.YtdjnaejblgheoaaGreatJO02
import Derived.Test.YtdjnaejblgheoaaGreatJO10
import Derived.Test.YtdjnaejblgheoaaGreatJO25
/- The walk of the law FlowOnce, if package flow says what it is asked. (Written by program: tools/drafts/genonce14.py.) -/
namespace Go.Proofs.YtdjnaejblgheoaaGreat
open Go.RowKit
set_option linter.unusedVariables false
set_option linter.unusedSimpArgs false
set_option maxHeartbeats 16000000 in
set_option maxRecDepth 100000 in
theorem flowonce_all (H : FlowSays) {L : List Nd} {wd : Int} {A : Option Addr} {n c : Nat} {w : World} (h : Sees w A n L) :
    Calls Tryz.prog 4 #[.slice A n c, .int .i64 wd] w fun e w' => e = .returned (.bool true) ∧ Below w.heap.size w w' := by
  obtain ⟨v, hv⟩ : ∃ v, longB L = v := ⟨_, rfl⟩
  have HH := Lib.hid H
  have HS := Lib.hid h
  have HLO := Lib.hid (long14_to hv h (c := c))
  cases v with
  | true =>
    clear H h hv
    go_enter Tryz.func4, Tryz.ntmps4
    go_wp2_with fail
    refine HLO.out.mono ?_
    rintro e w1 ⟨rfl, rfl⟩
    go_wp2_with fail
    refine (awake14_any HH.out _).mono ?_
    rintro e w2 ⟨rfl, hb⟩
    have HB := Lib.hid hb
    clear hb
    go_wp2_with fail
    go_ret
    exact ⟨rfl, HB.out⟩
  | false =>
    obtain ⟨h60, hw60⟩ := longB_no hv
    have hn : n ≤ 60 := by rw [← h.len]; exact h60
    have HL60 := Lib.hid h60
    have HW := Lib.hid hw60
    have HLN := Lib.hid h.len
    clear H hv h60 hw60 h
    go_enter Tryz.func4, Tryz.ntmps4
    go_wp2_with fail
    refine HLO.out.mono ?_
    rintro e w1 ⟨rfl, rfl⟩
    go_wp2_with fail
    refine (HH.out.of hn HW.out HS.out).mono ?_
    rintro e w3 ⟨B1, n1, k1, B2, n2, k2, rfl, hr1, hr2, hb, _, _⟩
    rcases gal_cases L wd with ⟨f, hg, hf0, hfc⟩ | ⟨hg, hw1, hw2, hd, hsm, _⟩
    · rw [hg] at hr1 hr2 ⊢
      simp only at hr1 hr2 ⊢
      have hz1 : n1 = 0 := hr1.1.symm
      have hz2 : n2 = 0 := hr2.1.symm
      subst hz1 hz2
      have HB3 := Lib.hid hb
      have hfn : (f != 0) = true := by simpa using hf0
      obtain ⟨ck, hck⟩ : ∃ ck, chkV L = ck := ⟨_, rfl⟩
      rw [hck] at hfc
      have HCK := Lib.hid (show ∀ W', On w W' → Calls Tryz.prog 13 #[.slice A n c] W' fun e w' => e = .returned (.int .i64 ck) ∧ Below W'.heap.size W' w' from fun W' ho => pCheck_to hck ⟨HS.out.on ho, by omega⟩)
      clear hr1 hr2 hb hg hf0 hck
      go_wp2_with ((with_reducible refine stop_dst 24 ?_ ?_); exact rfl)
      generalize hU : World.alloc w3 _ = U
      have HX := Lib.hid (show Box U w3.heap.size [.slice B1 0 k1, .slice B2 0 k2, .int .i64 0] by rw [← hU]; exact Box.new w3 [.slice B1 0 k1, .slice B2 0 k2, .int .i64 0] _)
      have HBU := Lib.hid (show On w U by rw [← hU]; exact On.alloc HB3.out _)
      clear hU HB3
      obtain ⟨⟨x0, x1, x2⟩, _⟩ := gal3_of HX.out
      by_cases hc0 : ck = 0
      · have hf4 : f = 4 := by omega
        subst hf4
        have hcn : (ck != 0) = false := by simpa using hc0
        clear hc0 hfc
        go_wp2_with fail
        refine (HCK.out U HBU.out).mono ?_
        rintro e w5 ⟨rfl, hb⟩
        have HB5 := Lib.hid (On.step HBU.out hb)
        clear hb x0 x1 x2
        go_wp2_with fail
        refine (awake14_any HH.out _).mono ?_
        rintro e w6 ⟨rfl, hb⟩
        have HB6 := Lib.hid (On.step HB5.out hb)
        clear hb
        go_wp2_with fail
        go_ret
        exact ⟨rfl, HB6.out⟩
      · have hcn : (ck != 0) = true := by simpa using hc0
        clear hc0 hfc
        go_wp2_with fail
        refine (HCK.out U HBU.out).mono ?_
        rintro e w5 ⟨rfl, hb⟩
        have HB5 := Lib.hid (On.step HBU.out hb)
        clear hb x0 x1 x2
        go_wp2_with fail
        refine (awake14_any HH.out _).mono ?_
        rintro e w6 ⟨rfl, hb⟩
        have HB6 := Lib.hid (On.step HB5.out hb)
        clear hb
        go_wp2_with fail
        go_ret
        exact ⟨rfl, HB6.out⟩
    rw [hg] at hr1 hr2 ⊢
    simp only at hr1 hr2 ⊢
    have hlen := galS_len (wd := wd) hd HL60.out HW.out
    have hn1 : n1 ≤ 7200 := by have := hr1.1; omega
    have hn2 : n2 ≤ 120 := by have h1 := hr2.1; unfold floatsS at h1; rw [List.length_map] at h1; omega
    have HN1 := Lib.hid (show (galS L wd).ams.length = n1 from hr1.1)
    have HN2 := Lib.hid (show (galS L wd).fls.length = n2 from by have h1 := hr2.1; unfold floatsS at h1; rw [List.length_map] at h1; exact h1)
    have HB3 := Lib.hid hb
    have HR1 := Lib.hid hr1
    have HR2 := Lib.hid hr2
    have HD := Lib.hid hd
    have HSM := Lib.hid hsm
    obtain ⟨hi, hhi⟩ : ∃ hi, highS (galS L wd) = hi := ⟨_, rfl⟩
    rw [hhi]
    have HHI := Lib.hid hhi
    have HHB := Lib.hid (show hi ≤ maxN by rw [← hhi]; have h1 := highTo_bd (run_ok hd.1 hw1 hw2 (evN L 0 L.length) GsOk.start) (galS L wd).fls.length; have h2 := highTo_all (galS L wd); have e : galS L wd = runS L wd .start (evN L 0 L.length) := rfl; rw [← e] at h1; rw [← h2]; omega)
    clear hr1 hr2 hb hg hd hsm hlen hhi
    go_wp2_with fail
    generalize hU : World.alloc w3 _ = U
    have hal : Below w3.heap.size w3 U := by rw [← hU]; exact (Below.refl _ _).alloc (Nat.le_refl _) _
    have HX := Lib.hid (show Box U w3.heap.size [.slice B1 n1 k1, .slice B2 n2 k2, .int .i64 hi] by rw [← hU]; exact Box.new w3 [.slice B1 n1 k1, .slice B2 n2 k2, .int .i64 hi] _)
    have HBU := Lib.hid (show On w U from below_then HB3.out hal)
    have HR1u := Lib.hid (HR1.out.below hal)
    have HR2u := Lib.hid (HR2.out.below hal)
    have HSU := Lib.hid (HS.out.on HBU.out)
    clear hU hal HB3 HR1 HR2
    generalize w3.heap.size = S5 at HX ⊢
    have HU0 := Lib.hid (Upto.zero HD.out.2.nested wd)
    go_loopw [7, 8, 9, 10, 11, 12, 13, 14] (fun k7 f8 l9 i10 v11 v12 v13 v14 wr => ∃ (i ka fa : Nat) (s : Gs) (low : Int), i10 = .int .i64 (i : Int) ∧ k7 = .int .i64 (ka : Int) ∧ f8 = .int .i64 (fa : Int) ∧ l9 = .int .i64 low ∧ i ≤ n ∧ Hid (s.ams.length = ka ∧ s.fls.length = fa) ∧ Hid (Upto L wd i s) ∧ Hid (0 ≤ low ∧ low ≤ s.place) ∧ Hid (On U wr)) (fun _ _ _ i10 _ _ _ _ _ => n - (intOf i10).toNat)
    case atStart => exact ⟨0, 0, 0, .start, 0, rfl, rfl, rfl, rfl, Nat.zero_le _, Lib.hid ⟨rfl, rfl⟩, HU0, Lib.hid ⟨Int.le_refl _, Int.le_refl _⟩, Lib.hid (On.refl U)⟩
    case round =>
      obtain ⟨i, ka, fa, s, low, rfl, rfl, rfl, rfl, hin, HKF, HU, HLW, HO⟩ := hrel
      by_cases hlt : i < n
      · have hlt2 : (i : Int) < (n : Int) := by omega
        have hi0 : (0 : Int) ≤ (i : Int) := by omega
        obtain ⟨b1, o1, mm, x, rfl, hb1, hx, hrg, hsh⟩ := (HSU.out.on HO.out).at_ hlt
        have HXN := Lib.hid hx
        have HSH := Lib.hid hsh
        have HRG := Lib.hid hrg
        have HXF := Lib.hid (HD.out.1 x (List.mem_of_getElem? hx))
        have hgr := HU.out.grows HD.out.1 hw1 hw2
        have hka : ka ≤ n1 := by obtain ⟨l, hl⟩ := hgr.ams; have h1 := HN1.out; rw [hl, List.length_append] at h1; have := HKF.out.1; omega
        have hfa : fa ≤ n2 := by obtain ⟨l, hl⟩ := hgr.fls; have h1 := HN2.out; rw [hl, List.length_append] at h1; have := HKF.out.2; omega
        clear hx hsh hrg hgr hb1
        go_wp2_with ((with_reducible refine stop_load 40 (.tmp 54) ?_ ?_); exact rfl)
        refine Stop.intro ?_
        refine wpList_load_mid rfl 40 (.tmp 54) rfl b1 (o1 + i * 20) rfl (encM mm) _ HRG.out Tryz.underlying40 rfl (by kernel_rfl) ?_
        go_wp2_with ((with_reducible refine stop_store 40 (.tmp 11) (.tmp 55) ?_ ?_); exact rfl)
        refine Stop.intro ?_
        refine wpList_store_row rfl 40 (.tmp 11) (.tmp 55) rfl wr.heap.size rfl 40 #[.int .i64 0, .int .i64 0, .int .i64 0, .int .i64 0, .int .i64 0, .int .i64 0, .int .i64 0, .int .i64 0, .int .i64 0, .int .i64 0, .int .i64 0, .int .i64 0, .int .i64 0, .int .i64 0, .int .i64 0, .int .i64 0, .slice none 0 0, .int .i64 0, .int .i64 0, .int .i64 0] (encM mm).toArray rfl (Blk.new wr 40 [.int .i64 0, .int .i64 0, .int .i64 0, .int .i64 0, .int .i64 0, .int .i64 0, .int .i64 0, .int .i64 0, .int .i64 0, .int .i64 0, .int .i64 0, .int .i64 0, .int .i64 0, .int .i64 0, .int .i64 0, .int .i64 0, .slice none 0 0, .int .i64 0, .int .i64 0, .int .i64 0] _ rfl _ rfl) (by kernel_rfl) rfl (encM_alls mm) ?_
        intro V hV
        have hVs : V.heap.size = wr.heap.size + 1 := by rw [hV, setRow_size]; simp
        have hbV : On wr V := by rw [hV]; exact below_setRow ((Below.refl _ _).alloc (Nat.le_refl _) _) (Nat.le_refl _) _
        have HK1 := Lib.hid (show Box V wr.heap.size (encM mm) by rw [hV]; exact (Blk.row (Blk.new wr 40 [.int .i64 0, .int .i64 0, .int .i64 0, .int .i64 0, .int .i64 0, .int .i64 0, .int .i64 0, .int .i64 0, .int .i64 0, .int .i64 0, .int .i64 0, .int .i64 0, .int .i64 0, .int .i64 0, .int .i64 0, .int .i64 0, .slice none 0 0, .int .i64 0, .int .i64 0, .int .i64 0] _ rfl _ rfl) (encM mm) _ rfl).box)
        have HOV := Lib.hid (On.step HO.out hbV)
        have HBV := Lib.hid hbV
        clear hV hVs hbV HO HRG
        generalize wr.heap.size = NB at HK1 ⊢
        obtain ⟨⟨nd0, nd1, nd2, nd3, nd4, nd5, nd13⟩, ⟨nd14, nd15, nd16, nd17, nd18, nd19⟩, nl⟩ := nd_see HSH.out HK1.out
        rcases HXF.out with ⟨hk, _⟩ | ⟨hk, _, hl2, hsp2, hwne, hws2, _⟩ | ⟨hk, _, _, _, _, hw3, hh3, _⟩ | ⟨hk, _, _, _, _, hw4, hh4, hs4⟩
        · -- a block
          rw [hk] at nd0
          have HU2 := Lib.hid (HU.out.block HXN.out hk)
          clear nd1 nd2 nd3 nd4 nd5 nd13 nd14 nd15 nd16 nd17 nd18 nd19
          go_wp2_with fail
          go_loopw [7, 9, 13, 14] (fun k7 l9 v13 v14 wr => k7 = .int .i64 (ka : Int) ∧ l9 = .int .i64 low ∧ v13 = .int .i64 0 ∧ Hid (wr.cell? ⟨NB, 0, none⟩ = some (.int .i64 1)) ∧ Hid (On U wr)) (fun _ _ _ _ _ => 0)
          case atStart => exact ⟨rfl, rfl, rfl, Lib.hid nd0, HOV⟩
          case round =>
            obtain ⟨rfl, rfl, rfl, HN0, HO⟩ := hrel
            have nd0 := HN0.out
            go_wp2_with fail
            go_roundw
            case rel => exact ⟨i + 1, ka, fa, s, low, by go_num, rfl, rfl, rfl, by omega, HKF, HU2, HLW, HO⟩
            case measure => simp [intOf] <;> omega
        · as_aux_lemma =>
            obtain ⟨t, ls, y0, hu2, htf, hta, hch, hsy, hy0, hpl2, hth, la, hla⟩ := once_text HD.out.1 hw1 hw2 HU.out HXN.out hk
            have HU2 := Lib.hid hu2
            rw [HHI.out] at hth
            have HKF2 := Lib.hid (show t.ams.length = ka + ls.length ∧ t.fls.length = fa by have := HKF.out; rw [hta, htf, List.length_append, List.length_map]; omega)
            have HAM := Lib.hid (show ∀ (q : Nat) (z : Ln), ls[q]? = some z → (galS L wd).ams[ka + q]? = some (lineAm i x.line z) from fun q z hz => by
              rw [hla, hta, List.append_assoc, List.getElem?_append_right (by have := HKF.out.1; omega)]
              have e : ka + q - s.ams.length = q := by have := HKF.out.1; omega
              rw [e, List.getElem?_append_left (by rw [List.length_map]; exact (List.getElem?_eq_some_iff.1 hz).1), List.getElem?_map, hz]
              rfl)
            have HPL := Lib.hid hpl2
            have HTH := Lib.hid hth
            have HCH := Lib.hid hch
            have HY0 := Lib.hid (show 0 ≤ low ∧ low ≤ y0 by have := HLW.out; omega)
            have HN9 := Lib.hid (show Near9 x.words x.space from ⟨⟨by have := hsp2.1; omega, by have := hsp2.2; unfold farN maxN at *; omega⟩, fun z hz => ⟨by have := (hws2 z hz).1; omega, by have := (hws2 z hz).2; unfold farN maxN at *; omega⟩⟩)
            have HMN := Lib.hid (show mm.n = x.words.length from HSH.out.2.1.symm)
            have hmn : mm.n ≤ 60 := by rw [HMN.out]; exact HW.out x (List.mem_of_getElem? HXN.out)
            have HIW := Lib.hid (show ∀ W', On V W' → Ints W' mm.A mm.n x.words from fun W' ho => HSH.out.2.below (B := wr.heap.size) (below_then HBV.out ho) rfl)
            have HL1 := Lib.hid (show 1 ≤ x.line ∧ x.line ≤ maxN from hl2)
            have HWN := Lib.hid (show 0 < x.words.length from List.length_pos_iff.2 hwne)
            rw [hk] at nd0
            clear hu2 htf hta hch hsy hy0 hpl2 hth hla hl2 hsp2 hws2 hwne nd1 nd2 nd3 nd4 nd5 nd13 nd14 nd15 nd16 nd17 nd18 nd19 nl
            go_wp2_with fail
            clear nd0
            go_loopw [7, 9, 13, 14] (fun k7 l9 v13 v14 wr => ∃ (q kq fr : Nat) (lw yq : Int), k7 = .int .i64 (kq : Int) ∧ l9 = .int .i64 lw ∧ v13 = .int .i64 (fr : Int) ∧ Hid (kq = ka + q) ∧ Hid (Chain x.words x.space x.line fr yq (ls.drop q)) ∧ Hid (0 ≤ lw ∧ lw ≤ yq ∧ (fr = 0 ∨ lw ≤ t.place)) ∧ Hid (fr ≤ x.words.length ∧ q ≤ ls.length) ∧ Hid (On V wr)) (fun k7 _ _ _ _ => ka + ls.length - (intOf k7).toNat)
            case atStart => exact ⟨0, ka, 0, low, y0, rfl, rfl, rfl, Lib.hid rfl, Lib.hid (by rw [List.drop_zero]; exact HCH.out), Lib.hid ⟨HY0.out.1, HY0.out.2, .inl rfl⟩, Lib.hid ⟨Nat.zero_le _, Nat.zero_le _⟩, Lib.hid (On.refl V)⟩
            case round =>
              obtain ⟨q, kq, fr, lw, yq, rfl, rfl, rfl, HKQ, HCQ, HLQ, HFQ, HO⟩ := hrel
              obtain ⟨⟨nd0, nd1, nd2, nd3, nd4, nd5, nd13⟩, ⟨nd14, nd15, nd16, nd17, nd18, nd19⟩, nl⟩ := nd_see HSH.out (HK1.out.below HO.out)
              rw [hk] at nd0
              by_cases hfl : fr < mm.n
              · obtain ⟨z, r, hzr⟩ : ∃ z r, ls.drop q = z :: r := by
                  cases hd2 : ls.drop q with
                  | nil => have h9 := HCQ.out; rw [hd2] at h9; have h8 : fr = x.words.length := h9; have := HMN.out; omega
                  | cons z r => exact ⟨z, r, rfl⟩
                have hch2 := HCQ.out
                rw [hzr] at hch2
                obtain ⟨hz0, hz1, jj, hz2, hz3, hz4, hz5, hz6⟩ := hch2
                have hzq : ls[q]? = some z := by have h9 : (ls.drop q)[0]? = some z := by rw [hzr]; rfl
                                                 rw [List.getElem?_drop, Nat.add_zero] at h9; exact h9
                have hrq : r = ls.drop (q + 1) := by rw [← List.drop_drop, hzr]; rfl
                rw [hrq] at hz6
                have hql : q < ls.length := (List.getElem?_eq_some_iff.1 hzq).1
                have ham := HAM.out q z hzq
                rw [← HKQ.out] at ham
                have hka2 : kq < n1 := by have h1 := (List.getElem?_eq_some_iff.1 ham).1; have h2 := HN1.out; omega
                have hzl := HPL.out z (List.mem_of_getElem? hzq)
                obtain ⟨ba, oa, y', hB1, _, hy', hyc⟩ := HR1u.out.at_ hka2
                subst hB1
                obtain rfl : lineAm i x.line z = y' := by rw [ham] at hy'; injection hy'
                obtain ⟨zf, zt, zx, zy, zw⟩ := z
                simp only at hz0 hz1 hz2 hz5 hz6 hzl
                have hwv : wideI x.words x.space (fr : Int) (jj : Int) = zw := by unfold wideI; rw [if_pos (by omega), Int.toNat_natCast, Int.toNat_natCast]; exact hz5.symm
                have HWV := Lib.hid hwv
                subst hz0 hz2
                have e0 : wr.cell? _ = _ := On.cell (hyc 0 _ rfl) wr (below_then HOV.out HO.out)
                have e1 : wr.cell? _ = _ := On.cell (hyc 1 _ rfl) wr (below_then HOV.out HO.out)
                have e2 : wr.cell? _ = _ := On.cell (hyc 2 _ rfl) wr (below_then HOV.out HO.out)
                have e3 : wr.cell? _ = _ := On.cell (hyc 3 _ rfl) wr (below_then HOV.out HO.out)
                have e4 : wr.cell? _ = _ := On.cell (hyc 4 _ rfl) wr (below_then HOV.out HO.out)
                have e5 : wr.cell? _ = _ := On.cell (hyc 5 _ rfl) wr (below_then HOV.out HO.out)
                have e6 : wr.cell? _ = _ := On.cell (hyc 6 _ rfl) wr (below_then HOV.out HO.out)
                have e7 : wr.cell? _ = _ := On.cell (hyc 7 _ rfl) wr (below_then HOV.out HO.out)
                simp only [Nat.add_zero, lineAm] at e0 e1 e2 e3 e4 e5 e6 e7
                have HC6 := Lib.hid hz6
                have HBD := Lib.hid (show 0 ≤ zy + x.line ∧ zy + x.line ≤ t.place by have := HLQ.out; have := HL1.out; omega)
                have HFQ2 := Lib.hid (show jj ≤ x.words.length ∧ q + 1 ≤ ls.length from ⟨hz4, by omega⟩)
                have HKQ2 := Lib.hid (show kq + 1 = ka + (q + 1) by have := HKQ.out; omega)
                have hl1 : lw ≤ zy := by have := HLQ.out; omega
                have hl2 : zy + x.line ≤ hi := by have := HTH.out; omega
                have hwy : IntKind.i64.wrap (zy + x.line) = zy + x.line := IntWalk.i64_in _ (by have := HL1.out; have := HLQ.out; have := HHB.out; unfold maxN at *; omega)
                have hwk : IntKind.i64.wrap ((kq : Int) + 1) = (kq : Int) + 1 := IntWalk.i64_in _ (by omega)
                have hb0 : ((i : Int) != (i : Int)) = false := by simp
                have hb1 : ((fr : Int) != (fr : Int)) = false := by simp
                have hb2 : (x.line != x.line) = false := by simp
                have hb3 : (zw != zw) = false := by simp
                have hki : (kq : Int) < (n1 : Int) := by omega
                have hk0 : (0 : Int) ≤ (kq : Int) := by omega
                have c1 : ¬ n1 ≤ kq := by omega
                have c2 : decide (n1 ≤ kq) = false := decide_eq_false (by omega)
                have c3 : (fr : Int) < (mm.n : Int) := by omega
                have c4 : decide (fr < mm.n) = true := decide_eq_true hfl
                have c5 : ¬ jj ≤ fr := by omega
                have c6 : decide (jj ≤ fr) = false := decide_eq_false (by omega)
                have c7 : decide ((jj : Int) ≤ (fr : Int)) = false := decide_eq_false (by omega)
                have d1 : decide (zy < lw) = false := decide_eq_false (by omega)
                have d2 : decide (hi < zy + x.line) = false := decide_eq_false (by omega)
                obtain ⟨⟨x0, x1, x2⟩, _⟩ := gal3_of (HX.out.below (below_then HOV.out HO.out))
                clear hz1 hz3 hz4 hz5 hz6 hzq hrq hql ham hzl hy' hyc hzr hwv
                go_wp2_with fail
                generalize hZ : World.alloc wr _ = Z
                have HAB := Lib.hid (show Box Z wr.heap.size (encAm ⟨1, (i : Int), (fr : Int), (jj : Int), zx, zy, zw, x.line⟩) by rw [← hZ]; exact Box.new wr (encAm ⟨1, (i : Int), (fr : Int), (jj : Int), zx, zy, zw, x.line⟩) 44)
                have hal : Below wr.heap.size wr Z := by rw [← hZ]; exact (Below.refl _ _).alloc (Nat.le_refl _) _
                have HOZ := Lib.hid (below_then HO.out hal)
                clear hZ hal e0 e1 e2 e3 e4 e5 e6 e7 x0 x1 x2 nd0 nd1 nd2 nd3 nd4 nd5 nd13 nd14 nd15 nd16 nd17 nd18 nd19 nl
                have hnd := nd_see HSH.out (HK1.out.below HOZ.out)
                have nd14 := OnW.cell hnd.2.1.1
                have nd15 := OnW.cell hnd.2.1.2.1
                have nd16 := OnW.cell hnd.2.1.2.2.1
                have e0 := OnW.cell (HAB.out.2.2 0 _ rfl)
                have e2 := OnW.cell (HAB.out.2.2 2 _ rfl)
                have e3 := OnW.cell (HAB.out.2.2 3 _ rfl)
                have e6 := OnW.cell (HAB.out.2.2 6 _ rfl)
                have e7 := OnW.cell (HAB.out.2.2 7 _ rfl)
                simp only at e0 e2 e3 e6 e7
                have HWC := Lib.hid (fun (p : OnW Z) => pwide_to (c := mm.c) HWV.out HN9.out (show I64w (fr : Int) from ⟨by omega, by have := HFQ.out.1; have := HMN.out; omega⟩) (show I64w (jj : Int) from ⟨by omega, by have := HFQ2.out.1; have := HMN.out; omega⟩) (show mm.n ≤ 1000 by omega) (HIW.out p.w (below_then HOZ.out p.h)))
                clear hnd
                refine wp_region_on (by kernel_rfl) (by kernel_rfl) ?_
                try dsimp only [List.append]
                repeat (go_big_quiet_step ((go_at_call 14; with_reducible exact Calls.on_of (HWC.out _))))
                refine wpQuiet_nil ?_
                intro w5 hw'
                obtain ⟨⟨w6, hOn⟩, hw''⟩ := hw'
                obtain rfl : w5 = w6 := hw''
                have HO5 := Lib.hid (below_then HOZ.out hOn)
                have HAB5 := HAB.out.below hOn
                clear hOn nd14 nd15 nd16 e0 e2 e3 e6 e7 HWC
                have e3 : w5.cell? ⟨wr.heap.size, 3, none⟩ = some (.int .i64 (jj : Int)) := HAB5.2.2 3 _ rfl
                have e5 : w5.cell? ⟨wr.heap.size, 5, none⟩ = some (.int .i64 zy) := HAB5.2.2 5 _ rfl
                have e7 : w5.cell? ⟨wr.heap.size, 7, none⟩ = some (.int .i64 x.line) := HAB5.2.2 7 _ rfl
                clear HAB5
                go_wp2_with fail
                go_roundw
                case rel => exact ⟨q + 1, kq + 1, jj, zy + x.line, zy + x.line, by go_num, rfl, rfl, HKQ2, HC6, Lib.hid ⟨HBD.out.1, Int.le_refl _, .inr HBD.out.2⟩, HFQ2, HO5⟩
                case measure => have := HKQ.out; have := HFQ2.out; simp [intOf] <;> omega
              · have hfe : fr = x.words.length := by have := HFQ.out; have := HMN.out; omega
                have hqe : q = ls.length := by
                  cases hd2 : ls.drop q with
                  | nil => have h9 := congrArg List.length hd2; rw [List.length_drop] at h9; have h8 := HFQ.out.2; simp only [List.length_nil] at h9; omega
                  | cons z r => have h9 := HCQ.out; rw [hd2] at h9; obtain ⟨_, _, jj, _, h3, h4, _⟩ := h9; omega
                have HKF3 := Lib.hid (show t.ams.length = kq ∧ t.fls.length = fa by have := HKF2.out; have := HKQ.out; omega)
                have HLW3 := Lib.hid (show 0 ≤ lw ∧ lw ≤ t.place by have h1 := HLQ.out; have h2 := HWN.out; omega)
                have c1 : (mm.n : Int) ≤ (fr : Int) := by omega
                have c2 : decide (fr < mm.n) = false := decide_eq_false hfl
                have c3 : decide ((fr : Int) < (mm.n : Int)) = false := decide_eq_false (by omega)
                have HOe := Lib.hid (below_then HOV.out HO.out)
                clear hfe hqe
                go_wp2_with fail
                go_roundw
                case rel => exact ⟨i + 1, kq, fa, t, lw, by go_num, rfl, rfl, rfl, by omega, HKF3, HU2, HLW3, HOe⟩
                case measure => simp [intOf] <;> omega
        · as_aux_lemma =>
            obtain ⟨t, y, hu2, htf, hta, hy, q0, q1, q2, q3, hpy, hyt, hy0, hth⟩ := once_box HD.out.1 hw1 hw2 HU.out HXN.out hk
            have HU2 := Lib.hid hu2
            rw [HKF.out.1] at hy
            rw [HHI.out] at hth
            have HKF2 := Lib.hid (show t.ams.length = ka + 1 ∧ t.fls.length = fa by have := HKF.out; rw [hta, htf]; omega)
            have hka2 : ka < n1 := by have h1 := (List.getElem?_eq_some_iff.1 hy).1; have h2 := HN1.out; omega
            obtain ⟨ba, oa, y', rfl, _, hy', hyc⟩ := HR1u.out.at_ hka2
            obtain rfl : y = y' := by rw [hy] at hy'; injection hy'
            obtain ⟨a0, a1, a2, a3, a4, a5, a6, a7⟩ := y
            simp only at q0 q1 q2 q3 hpy hyt hy0
            subst q0 q1 q2 q3
            have HYC := Lib.hid hyc
            have HLW2 := Lib.hid (show 0 ≤ a5 + x.h ∧ a5 + x.h ≤ t.place by have := hh3.1; omega)
            have hl1 : low ≤ a5 := by have := HLW.out; omega
            have hl2 : a5 + x.h ≤ hi := by omega
            have hwy : IntKind.i64.wrap (a5 + x.h) = a5 + x.h := IntWalk.i64_in _ (by have := hh3.1; have := HHB.out; unfold maxN at *; omega)
            have hwk : IntKind.i64.wrap ((ka : Int) + 1) = (ka : Int) + 1 := IntWalk.i64_in _ (by omega)
            have hb0 : ((i : Int) != (i : Int)) = false := by simp
            have hb1 : (x.w != x.w) = false := by simp
            have hb2 : (x.h != x.h) = false := by simp
            have hki : (ka : Int) < (n1 : Int) := by omega
            have hk0 : (0 : Int) ≤ (ka : Int) := by omega
            have d1 : decide (a5 < low) = false := decide_eq_false (by omega)
            have d2 : decide (hi < a5 + x.h) = false := decide_eq_false (by omega)
            rw [hk] at nd0
            clear hu2 hta htf hy hy' hyc hpy hyt hy0 hth nd1 nd2 nd3 nd4 nd5 nd13 nd14 nd15 nd16 nd17 nd18 nd19 nl
            go_wp2_with fail
            clear nd0
            go_loopw [7, 9, 13, 14] (fun k7 l9 v13 v14 wr => ∃ st : Bool, k7 = .int .i64 (bif st then (ka : Int) + 1 else (ka : Int)) ∧ l9 = .int .i64 (bif st then a5 + x.h else low) ∧ v13 = .int .i64 (bif st then 1 else 0) ∧ Hid (On V wr)) (fun _ _ v13 _ _ => 1 - (intOf v13).toNat)
            case atStart => exact ⟨false, rfl, rfl, rfl, Lib.hid (On.refl V)⟩
            case round =>
              obtain ⟨st, rfl, rfl, rfl, HO⟩ := hrel
              obtain ⟨⟨nd0, nd1, nd2, nd3, nd4, nd5, nd13⟩, ⟨nd14, nd15, nd16, nd17, nd18, nd19⟩, nl⟩ := nd_see HSH.out (HK1.out.below HO.out)
              rw [hk] at nd0
              cases st with
              | false =>
                simp only [cond_false]
                obtain ⟨⟨x0, x1, x2⟩, _⟩ := gal3_of (HX.out.below (below_then HOV.out HO.out))
                have e0 := On.cell (HYC.out 0 _ rfl) wr (below_then HOV.out HO.out)
                have e1 := On.cell (HYC.out 1 _ rfl) wr (below_then HOV.out HO.out)
                have e2 := On.cell (HYC.out 2 _ rfl) wr (below_then HOV.out HO.out)
                have e3 := On.cell (HYC.out 3 _ rfl) wr (below_then HOV.out HO.out)
                have e4 := On.cell (HYC.out 4 _ rfl) wr (below_then HOV.out HO.out)
                have e5 := On.cell (HYC.out 5 _ rfl) wr (below_then HOV.out HO.out)
                have e6 := On.cell (HYC.out 6 _ rfl) wr (below_then HOV.out HO.out)
                have e7 := On.cell (HYC.out 7 _ rfl) wr (below_then HOV.out HO.out)
                simp only [Nat.add_zero] at e0 e1 e2 e3 e4 e5 e6 e7
                go_wp2_with fail
                go_roundw
                case rel => exact ⟨true, by simp only [cond_true], by simp only [cond_true], by simp only [cond_true], Lib.hid (On.alloc HO.out _)⟩
                case measure => simp [intOf] <;> omega
              | true =>
                simp only [cond_true]
                go_wp2_with fail
                go_roundw
                case rel => exact ⟨i + 1, ka + 1, fa, t, a5 + x.h, by go_num, by go_num, rfl, rfl, by omega, HKF2, HU2, HLW2, Lib.hid (below_then HOV.out HO.out)⟩
                case measure => simp [intOf] <;> omega
        · as_aux_lemma =>
            obtain ⟨t, y, hu2, hta, htf, hpl, hy, q0, q1, q5, q6, q2, q2', q4, q4', hprev⟩ := once_float HD.out.1 hw1 hw2 HU.out HXN.out hk
            have HU2 := Lib.hid hu2
            have HLW2 := Lib.hid (show 0 ≤ low ∧ low ≤ t.place by have := HLW.out; omega)
            have HKF2 := Lib.hid (show t.ams.length = ka ∧ t.fls.length = fa + 1 by have := HKF.out; rw [hta]; omega)
            rw [HKF.out.2] at hy
            rw [HKF.out.1] at q2
            rw [HHI.out] at q4'
            have hfa2 : fa < n2 := by have h1 := (List.getElem?_eq_some_iff.1 hy).1; have h2 := HR2u.out.1; omega
            obtain ⟨bf, of, y', rfl, _, hy', hyc⟩ := HR2u.out.at_ hfa2
            obtain rfl : y = y' := by rw [hy] at hy'; injection hy'
            obtain ⟨y0, y1, y2, y3, y4, y5, y6⟩ := y
            simp only at q0 q1 q5 q6 q2 q2' q4 q4' hprev
            subst q0 q1 q5 q6
            have e0 := On.cell (hyc 0 _ rfl) V HOV.out
            have e1 := On.cell (hyc 1 _ rfl) V HOV.out
            have e2 := On.cell (hyc 2 _ rfl) V HOV.out
            have e3 := On.cell (hyc 3 _ rfl) V HOV.out
            have e4 := On.cell (hyc 4 _ rfl) V HOV.out
            have e5 := On.cell (hyc 5 _ rfl) V HOV.out
            have e6 := On.cell (hyc 6 _ rfl) V HOV.out
            simp only [Nat.add_zero] at e0 e1 e2 e3 e4 e5 e6
            have hwy : IntKind.i64.wrap (y4 + x.h) = y4 + x.h := IntWalk.i64_in _ (by have := hh4.1; have := hh4.2; have := HHB.out; unfold maxN at *; omega)
            have hb0 : ((i : Int) != (i : Int)) = false := by simp
            have hb1 : (x.side != x.side) = false := by simp
            have hb5 : (x.w != x.w) = false := by simp
            have hb6 : (x.h != x.h) = false := by simp
            have hfi : (fa : Int) < (n2 : Int) := by omega
            have hf0 : (0 : Int) ≤ (fa : Int) := by omega
            obtain ⟨⟨x0, x1, x2⟩, _⟩ := gal3_of (HX.out.below HOV.out)
            rw [hk] at nd0
            clear hu2 hta htf hpl hy hy' hyc
            by_cases hfz : fa = 0
            · obtain rfl : fa = 0 := hfz
              clear hprev
              simp only [Nat.zero_mul, Nat.add_zero] at e0 e1 e2 e3 e4 e5 e6
              go_wp2_with fail
              generalize hZ : World.alloc V _ = Z
              have HFB := Lib.hid (show Box Z V.heap.size (encFl ⟨(i : Int), x.side, y2, y3, y4, x.w, x.h⟩) by rw [← hZ]; exact Box.new V (encFl ⟨(i : Int), x.side, y2, y3, y4, x.w, x.h⟩) 42)
              have hal : Below V.heap.size V Z := by rw [← hZ]; exact (Below.refl _ _).alloc (Nat.le_refl _) _
              have HOZ := Lib.hid (On.step HOV.out hal)
              have HKZ := Lib.hid (HK1.out.below hal)
              have d5 : decide ((0 : Int) < 0) = false := by decide
              clear hZ hal e0 e1 e2 e3 e4 e5 e6 x0 x1 x2 nd0 nd1 nd2 nd3 nd4 nd5 nd13 nd14 nd15 nd16 nd17 nd18 nd19 nl
              have hnd := nd_see HSH.out HKZ.out
              have nd17 := OnW.cell hnd.2.1.2.2.2.1
              have nd18 := OnW.cell hnd.2.1.2.2.2.2.1
              have nd19 := OnW.cell hnd.2.1.2.2.2.2.2
              have hx3 := gal3_of (HX.out.below HOZ.out)
              have x0 := OnW.cell hx3.1.1
              have x1 := OnW.cell hx3.1.2.1
              have x2 := OnW.cell hx3.1.2.2
              have e0 := OnW.cell (HFB.out.of7.1.1)
              have e1 := OnW.cell (HFB.out.of7.1.2.1)
              have e2 := OnW.cell (HFB.out.of7.1.2.2.1)
              have e4 := OnW.cell (HFB.out.of7.1.2.2.2.2.1)
              have e5 := OnW.cell (HFB.out.of7.1.2.2.2.2.2.1)
              have e6 := OnW.cell (HFB.out.of7.1.2.2.2.2.2.2)
              simp only at e0 e1 e2 e4 e5 e6
              have d1 : decide ((ka : Int) < y2) = false := decide_eq_false (by omega)
              have d2 : decide (y2 < 0) = false := decide_eq_false (by omega)
              have d3 : decide (y4 < 0) = false := decide_eq_false (by omega)
              have d4 : decide (hi < y4 + x.h) = false := decide_eq_false (by omega)
              clear hnd hx3
              as_aux_lemma =>
                refine wp_region_on (by kernel_rfl) (by kernel_rfl) ?_
                try dsimp only [List.append]
                repeat (go_big_quiet_step (fail))
                refine wpQuiet_nil ?_
                intro w5 hw'
                obtain ⟨⟨w6, hOn⟩, hw''⟩ := hw'
                obtain rfl : w5 = w6 := hw''
                have HO5 := Lib.hid (On.step HOZ.out hOn)
                clear hOn nd17 nd18 nd19 x0 x1 x2 e0 e1 e2 e4 e5 e6
                go_wp2_with fail
                go_roundw
                case rel => exact ⟨i + 1, ka, 0 + 1, t, low, by go_num, rfl, by go_num, rfl, by omega, HKF2, HU2, HLW2, HO5⟩
                case measure => simp [intOf] <;> omega
            · obtain ⟨fb, rfl⟩ : ∃ fb, fa = fb + 1 := ⟨fa - 1, by omega⟩
              obtain ⟨bq, oq, z, eq1, _, hz, hzc⟩ := HR2u.out.at_ (show fb < n2 by omega)
              injection eq1 with eq1
              injection eq1 with eq2 eq3
              subst eq2 eq3
              have hzy := hprev z (by have := HKF.out.2; omega) (by rw [HKF.out.2, Nat.add_sub_cancel]; exact hz)
              have p4 := On.cell (hzc 4 _ rfl) V HOV.out
              have hs1 : IntKind.i64.wrap ((fb : Int) + 1 - 1) = (fb : Int) := by rw [Int.add_sub_cancel]; exact IntWalk.i64_in _ (by omega)
              have hs2 : IntKind.i64.wrap (fb : Int) = (fb : Int) := IntWalk.i64_in _ (by omega)
              have hf1 : (0 : Int) < (fb : Int) + 1 := by omega
              have hf2 : (0 : Int) ≤ (fb : Int) := by omega
              have hf3 : (fb : Int) < (n2 : Int) := by omega
              clear hz hzc hprev hfz
              go_wp2_with fail
              generalize hZ : World.alloc V _ = Z
              have HFB := Lib.hid (show Box Z V.heap.size (encFl ⟨(i : Int), x.side, y2, y3, y4, x.w, x.h⟩) by rw [← hZ]; exact Box.new V (encFl ⟨(i : Int), x.side, y2, y3, y4, x.w, x.h⟩) 42)
              have hal : Below V.heap.size V Z := by rw [← hZ]; exact (Below.refl _ _).alloc (Nat.le_refl _) _
              have HOZ := Lib.hid (On.step HOV.out hal)
              have HKZ := Lib.hid (HK1.out.below hal)
              have p4z := OnW.cell (On.cell p4 Z hal)
              clear p4
              have d5 : decide ((0 : Int) < (fb : Int) + 1) = true := decide_eq_true (by omega)
              have d6 : decide (y4 < z.y) = false := decide_eq_false (by omega)
              clear hZ hal e0 e1 e2 e3 e4 e5 e6 x0 x1 x2 nd0 nd1 nd2 nd3 nd4 nd5 nd13 nd14 nd15 nd16 nd17 nd18 nd19 nl
              have hnd := nd_see HSH.out HKZ.out
              have nd17 := OnW.cell hnd.2.1.2.2.2.1
              have nd18 := OnW.cell hnd.2.1.2.2.2.2.1
              have nd19 := OnW.cell hnd.2.1.2.2.2.2.2
              have hx3 := gal3_of (HX.out.below HOZ.out)
              have x0 := OnW.cell hx3.1.1
              have x1 := OnW.cell hx3.1.2.1
              have x2 := OnW.cell hx3.1.2.2
              have e0 := OnW.cell (HFB.out.of7.1.1)
              have e1 := OnW.cell (HFB.out.of7.1.2.1)
              have e2 := OnW.cell (HFB.out.of7.1.2.2.1)
              have e4 := OnW.cell (HFB.out.of7.1.2.2.2.2.1)
              have e5 := OnW.cell (HFB.out.of7.1.2.2.2.2.2.1)
              have e6 := OnW.cell (HFB.out.of7.1.2.2.2.2.2.2)
              simp only at e0 e1 e2 e4 e5 e6
              have d1 : decide ((ka : Int) < y2) = false := decide_eq_false (by omega)
              have d2 : decide (y2 < 0) = false := decide_eq_false (by omega)
              have d3 : decide (y4 < 0) = false := decide_eq_false (by omega)
              have d4 : decide (hi < y4 + x.h) = false := decide_eq_false (by omega)
              clear hnd hx3
              as_aux_lemma =>
                refine wp_region_on (by kernel_rfl) (by kernel_rfl) ?_
                try dsimp only [List.append]
                repeat (go_big_quiet_step (fail))
                refine wpQuiet_nil ?_
                intro w5 hw'
                obtain ⟨⟨w6, hOn⟩, hw''⟩ := hw'
                obtain rfl : w5 = w6 := hw''
                have HO5 := Lib.hid (On.step HOZ.out hOn)
                clear hOn nd17 nd18 nd19 x0 x1 x2 e0 e1 e2 e4 e5 e6
                go_wp2_with fail
                go_roundw
                case rel => exact ⟨i + 1, ka, fb + 1 + 1, t, low, by go_num, rfl, by go_num, rfl, by omega, HKF2, HU2, HLW2, HO5⟩
                case measure => simp [intOf] <;> omega
      · have hge : (n : Int) ≤ (i : Int) := by omega
        have hie : i = n := by omega
        have hue : Upto L wd L.length s := by rw [HLN.out, ← hie]; exact HU.out
        have he := hue.end_
        have hk1' : ka = n1 := by have h1 := HN1.out; rw [he.1] at h1; have := HKF.out.1; omega
        have hf1' : fa = n2 := by have h1 := HN2.out; rw [he.2] at h1; have := HKF.out.2; omega
        clear hie hue he
        subst hk1' hf1'
        obtain ⟨⟨x0, x1, x2⟩, _⟩ := gal3_of (HX.out.below HO.out)
        have hb0 : ((ka : Int) == (ka : Int)) = true := by simp
        have hb1 : ((fa : Int) == (fa : Int)) = true := by simp
        go_wp2_with fail
        refine (awake14_any HH.out _).mono ?_
        rintro e w9 ⟨rfl, hb⟩
        have HB9 := Lib.hid (On.step (on_then HBU.out HO.out) hb)
        clear hb
        go_wp2_with fail
        go_ret
        exact ⟨rfl, HB9.out⟩
end Go.Proofs.YtdjnaejblgheoaaGreat
