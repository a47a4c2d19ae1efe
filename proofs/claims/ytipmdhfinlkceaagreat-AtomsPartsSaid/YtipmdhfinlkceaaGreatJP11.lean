import Derived.Test.YtipmdhfinlkceaaGreatJP10
/- BandsMeeting. -/
set_option linter.unusedVariables false
set_option linter.unusedSimpArgs false
namespace Go.Proofs.YtipmdhfinlkceaaGreat
open Go.RowKit
theorem leave_step {y high s t : Int} {f : Fl} (h : meetsF f y high = true) : bandStep y high (s, t) f = leaveF f.x f.w f.side s t := by
  unfold bandStep leaveF
  rw [if_pos h]
theorem leave_narrow {f : Fl} {y high a b : Int} (h : meetsF f y high = true) : (leaveF f.x f.w f.side a b != (a, b)) = narrowF y high a b f := by
  unfold narrowF leaveF
  rw [h, Bool.true_and, Bool.eq_iff_iff, bne_iff_ne]
  by_cases hs : f.side = 1
  · rw [if_pos hs, if_pos hs, decide_eq_true_iff, ne_eq, Prod.mk.injEq]
    omega
  · rw [if_neg hs, if_neg hs, decide_eq_true_iff, ne_eq, Prod.mk.injEq]
    omega
theorem next_step {y high a b : Int} {s : Int × Bool} {f : Fl} : leastStep (narrowF y high a b) s f = nextV (narrowF y high a b f) (f.y + f.h) s := rfl
theorem next_skip {y high a b : Int} {s : Int × Bool} {f : Fl} (h : meetsF f y high = false) : leastStep (narrowF y high a b) s f = s := by
  unfold leastStep narrowF
  rw [h, Bool.false_and, if_neg (by decide)]
set_option maxHeartbeats 8000000 in
set_option maxRecDepth 100000 in
theorem meeting_of {l : List Fl} {y high a b p : Int} {q : Int} (hv : bandL l y high (a, b) = (p, q)) (hn : ∀ f ∈ l, f.near) (hy : NearY y) (hh : NearI high) {A : Option Addr} {n c : Nat} {w0 w : World} (h : Rows 7 encFl w0 A n l) (hB : Below w0.heap.size w0 w) {m : Nat} (hX : Box w m [.int .i64 a, .int .i64 b]) (hm : w0.heap.size ≤ m) :
    Calls Tryz.prog 154 #[.slice A n c, .int .i64 y, .int .i64 high, .func (.func 157) #[] #[.pointer (some ⟨m, 0, none⟩)]] w fun e w' => e = .returned (.tuple #[]) ∧ Box w' m [.int .i64 p, .int .i64 q] ∧ Spare [m] w w' ∧ Below w0.heap.size w0 w' := by
  have HA := Lib.hid h
  have HL := Lib.hid h.1
  have hnb := h.2.1
  have HV := Lib.hid hv
  have HN := Lib.hid hn
  have HX := Lib.hid hX
  have HY := Lib.hid hy
  have HH := Lib.hid hh
  have hw1 : IntKind.i64.wrap (y + max high 1) = y + max high 1 := by
    obtain ⟨y1, y2⟩ := hy
    obtain ⟨h1, h2⟩ := hh
    unfold farB at *
    exact IntWalk.i64_in _ (by omega)
  obtain ⟨V, hV⟩ : ∃ V, w.alloc (.cells #[.int .i64 y, .int .i64 (y + max high 1)] 112) = V := ⟨_, rfl⟩
  have hwV : Below w.heap.size w V := by rw [← hV]; go_grown
  have HSP0 := Lib.hid (Spare.below (Spare.refl [m] w) hwV)
  have HB0 := Lib.hid (show Below w0.heap.size w0 V from hB.trans (hwV.mono hB.size))
  have HD0 := Lib.hid (HX.out.below hwV)
  have hmw := hX.1
  clear hX HX
  have HS0 := Lib.hid (show Box V w.heap.size [.int .i64 y, .int .i64 (y + max high 1)] by rw [← hV]; exact Box.new2 _ _ _ _)
  have hms := hB.size
  have HVV := Lib.hid hV
  clear hV h hv hn hy hh hwV
  go_enter Tryz.func154, Tryz.ntmps154
  go_wp2_with fail
  rw [HVV.out]
  go_loopw [10, 11, 20] (fun xx ff i wr => ∃ (k : Nat) (s : Int) (t : Int), i = .int .i64 (k : Int) ∧ k ≤ n ∧ Hid ((l.take k).foldl (bandStep y high) (a, b) = (s, t)) ∧ Hid (Box wr m [.int .i64 s, .int .i64 t]) ∧ Hid (Spare [m] w wr) ∧ Hid (Box wr w.heap.size [.int .i64 y, .int .i64 (y + max high 1)]) ∧ Hid (Below w0.heap.size w0 wr)) (fun _ _ i _ => n - (intOf i).toNat)
  case atStart => exact ⟨0, a, b, rfl, Nat.zero_le _, Lib.hid rfl, HD0, HSP0, HS0, HB0⟩
  case round =>
    obtain ⟨k, s, t, rfl, hkn, HF, HD, HSP, HS, HB⟩ := hrel
    by_cases hlt : k < n
    · have hlt2 : (k : Int) < (n : Int) := by omega
      obtain ⟨b1, o1, f, rfl, hb1, hf, q0, q1, q2, q3, q4, q5, q6⟩ := fl_at (HA.out.below HB.out) hlt
      have HST := Lib.hid (foldl_one (bandStep y high) (a, b) hf)
      have HFN := Lib.hid (HN.out f (List.mem_of_getElem? hf))
      obtain ⟨v, hv⟩ : ∃ v, meetsF f y high = v := ⟨_, rfl⟩
      have HM := Lib.hid hv
      have HPL := Lib.hid (placed_to f)
      have HBX := Lib.hid (box7 wr f 67)
      have HAP := Lib.hid (meets_apart (f := f) (y := y) (high := high))
      have hHg : w0.heap.size ≤ wr.heap.size := HB.out.size
      have hfl := (Below.refl wr.heap.size wr).alloc (Nat.le_refl _) (.cells #[.int .i64 f.node, .int .i64 f.side, .int .i64 f.anchor, .int .i64 f.x, .int .i64 f.y, .int .i64 f.w, .int .i64 f.h] 67)
      have HSPG := Lib.hid (HSP.out.below hfl)
      clear hfl
      have HG := Lib.hid (HB.out.alloc (Nat.le_trans (Nat.le_refl _) hHg) (.cells #[.int .i64 f.node, .int .i64 f.side, .int .i64 f.anchor, .int .i64 f.x, .int .i64 f.y, .int .i64 f.w, .int .i64 f.h] 67))
      have HSG := Lib.hid (HS.out.alloc (.cells #[.int .i64 f.node, .int .i64 f.side, .int .i64 f.anchor, .int .i64 f.x, .int .i64 f.y, .int .i64 f.w, .int .i64 f.h] 67))
      have HDG := Lib.hid (HD.out.alloc (.cells #[.int .i64 f.node, .int .i64 f.side, .int .i64 f.anchor, .int .i64 f.x, .int .i64 f.y, .int .i64 f.w, .int .i64 f.h] 67))
      obtain ⟨f0, f1, f2, f3, f4, f5, f6⟩ := f
      obtain ⟨⟨x1, x2⟩, ⟨y1, y2⟩, ⟨u1, u2⟩, ⟨h1, h2⟩⟩ := HFN.out
      unfold farB at x1 x2 y1 y2 u1 u2 h1 h2
      simp only at q0 q1 q2 q3 q4 q5 q6 x1 x2 y1 y2 u1 u2 h1 h2
      have hwx : IntKind.i64.wrap (f3 + f5) = f3 + f5 := IntWalk.i64_in _ (by omega)
      have hwy : IntKind.i64.wrap (f4 + f6) = f4 + f6 := IntWalk.i64_in _ (by omega)
      have HWX := Lib.hid hwx
      have HWY := Lib.hid hwy
      clear hf hv hwx hwy
      go_wp2_with fail
      refine (HPL.out _).mono ?_
      rintro e w5 ⟨rfl, hb5⟩
      have HG5 := Lib.hid (HG.out.trans (hb5.mono HG.out.size))
      have HS5 := Lib.hid (HSG.out.below hb5)
      have HSP5 := Lib.hid (HSPG.out.below hb5)
      have HD5 := Lib.hid (HDG.out.below hb5)
      clear hb5 q0 q1 q2 q3 q4 q5 q6 HG HSG HBX HPL HDG
      go_wp2_with fail
      generalize hW : w5.alloc (.cells #[.int .i64 f3, .int .i64 f4, .int .i64 f5, .int .i64 f6, .int .i64 f1] 132) = W
      have HX := Lib.hid (show Box W w5.heap.size [.int .i64 f3, .int .i64 f4, .int .i64 f5, .int .i64 f6, .int .i64 f1] by rw [← hW]; exact Box.new5 _ _ _ _ _ _ _)
      have hB5W : Below w5.heap.size w5 W := by rw [← hW]; go_grown
      have HG6 := Lib.hid (HG5.out.trans (hB5W.mono HG5.out.size))
      have HS6 := Lib.hid (HS5.out.below hB5W)
      have HSP6 := Lib.hid (HSP5.out.below hB5W)
      have HD6 := Lib.hid (HD5.out.below hB5W)
      clear hW hB5W HG5 HS5
      have k0 := OnW.cell (W := W) HX.out.of5.1.1
      have k1 := OnW.cell (W := W) HX.out.of5.1.2.1
      have k2 := OnW.cell (W := W) HX.out.of5.1.2.2.1
      have k3 := OnW.cell (W := W) HX.out.of5.1.2.2.2.1
      have k4 := OnW.cell (W := W) HX.out.of5.1.2.2.2.2
      obtain ⟨j0, j1⟩ := OnW.of2 HS6.out
      have HC1 := Lib.hid (fun w => down_any f3 f4 f5 f6 w HWY.out)
      have HC2 := Lib.hid (fun w => show Calls Tryz.prog 162 #[.agg #[.int .i64 y, .int .i64 (y + max high 1)], .agg #[.int .i64 f4, .int .i64 (f4 + f6)]] w fun e w' => e = .returned (.bool (!v)) ∧ Below w.heap.size w w' from by rw [← HM.out, ← HAP.out]; exact apart_any _ _ _ _ _)
      refine wp_region_on (by kernel_rfl) (by kernel_rfl) ?_
      repeat (go_big_quiet_step ((first
        | (go_at_call 163; with_reducible exact Calls.on_of (HC1.out _))
        | (go_at_call 162; with_reducible exact Calls.on_of (HC2.out _)))))
      refine wpQuiet_nil ?_
      intro w7 hw'
      obtain ⟨⟨w8, hOn⟩, hw''⟩ := hw'
      obtain rfl : w7 = w8 := hw''
      have HG7 := Lib.hid (HG6.out.trans (Below.mono hOn HG6.out.size))
      have HS7 := Lib.hid (HS6.out.below hOn)
      have HSP7 := Lib.hid (HSP6.out.below hOn)
      have HD7 := Lib.hid (HD6.out.below hOn)
      obtain ⟨⟨z0, z1, z2, z3, z4⟩, hzs⟩ := (HX.out.below hOn).of5
      clear hOn k0 k1 k2 k3 k4 j0 j1 HG6 HS6 HX
      cases v with
      | false =>
        have HE := Lib.hid (show (l.take (k + 1)).foldl (bandStep y high) (a, b) = (s, t) by rw [HST.out, HF.out]; unfold bandStep; rw [HM.out, if_neg (by decide)])
        go_wp2_with fail
        go_roundw
        case rel => exact ⟨k + 1, _, _, by go_num, by omega, HE, HD7, HSP7, HS7, HG7⟩
        case measure => simp [intOf] <;> omega
      | true =>
        obtain ⟨⟨s', t'⟩, hlv⟩ : ∃ r, leaveF f3 f5 f1 s t = r := ⟨_, rfl⟩
        have HE := Lib.hid (show (l.take (k + 1)).foldl (bandStep y high) (a, b) = (s', t') by rw [HST.out, HF.out, leave_step HM.out]; exact hlv)
        have HLV := Lib.hid hlv
        clear hlv
        go_wp2_with fail
        refine (of1_to HLV.out HWX.out HD7.out hm HG7.out).mono ?_
        rintro e w9 ⟨rfl, hd9, hsp, hb9⟩
        have HD9 := Lib.hid hd9
        have HS9 := Lib.hid (hsp _ _ (by simp; omega) HS7.out)
        have HSP9 := Lib.hid (HSP7.out.trans hsp)
        have HB9 := Lib.hid hb9
        clear hd9 hsp hb9
        go_wp2_with fail
        go_roundw
        case rel => exact ⟨k + 1, _, _, by go_num, by omega, HE, HD9, HSP9, HS9, HB9⟩
        case measure => simp [intOf] <;> omega
    · have hge : (n : Int) ≤ (k : Int) := by omega
      have HE := Lib.hid (show (s, t) = (p, q) by rw [← HV.out, ← HF.out, List.take_of_length_le (by have := HL.out; omega)]; rfl)
      go_wp2_with fail
      go_end0
      have he := HE.out
      injection he with e1 e2
      subst e1 e2
      exact ⟨rfl, HD.out, HSP.out, HB.out⟩
set_option maxHeartbeats 8000000 in
set_option maxRecDepth 100000 in
theorem meeting_next {l : List Fl} {y high a b p : Int} {q : Bool} (hv : nextL l y high a b = (p, q)) (hn : ∀ f ∈ l, f.near) (hy : NearY y) (hh : NearI high) {A : Option Addr} {n c : Nat} {w0 w : World} (h : Rows 7 encFl w0 A n l) (hB : Below w0.heap.size w0 w) {ki kf kn : Nat} (hI : Box w ki [.int .i64 a, .int .i64 b]) (hF : Box w kf [.bool false]) (hN : Box w kn [.int .i64 0]) (hki : ki ≠ kf ∧ ki ≠ kn) (hzf : w0.heap.size ≤ kf) (hzn : w0.heap.size ≤ kn) (hne : kn ≠ kf) :
    Calls Tryz.prog 154 #[.slice A n c, .int .i64 y, .int .i64 high, .func (.func 155) #[] #[.pointer (some ⟨ki, 0, none⟩), .pointer (some ⟨kf, 0, none⟩), .pointer (some ⟨kn, 0, none⟩)]] w fun e w' => e = .returned (.tuple #[]) ∧ Box w' kn [.int .i64 p] ∧ Box w' kf [.bool q] ∧ Spare [kn, kf] w w' ∧ Below w0.heap.size w0 w' := by
  have HA := Lib.hid h
  have HL := Lib.hid h.1
  have hnb := h.2.1
  have HV := Lib.hid hv
  have HN := Lib.hid hn
  have HXI := Lib.hid hI
  have HXF := Lib.hid hF
  have HXN := Lib.hid hN
  have HKI := Lib.hid hki
  have HNE := Lib.hid hne
  have HY := Lib.hid hy
  have HH := Lib.hid hh
  have hw1 : IntKind.i64.wrap (y + max high 1) = y + max high 1 := by
    obtain ⟨y1, y2⟩ := hy
    obtain ⟨h1, h2⟩ := hh
    unfold farB at *
    exact IntWalk.i64_in _ (by omega)
  obtain ⟨V, hV⟩ : ∃ V, w.alloc (.cells #[.int .i64 y, .int .i64 (y + max high 1)] 112) = V := ⟨_, rfl⟩
  have hwV : Below w.heap.size w V := by rw [← hV]; go_grown
  have HSP0 := Lib.hid (Spare.below (Spare.refl [kn, kf] w) hwV)
  have HB0 := Lib.hid (show Below w0.heap.size w0 V from hB.trans (hwV.mono hB.size))
  have HI0 := Lib.hid (HXI.out.below hwV)
  have HF0 := Lib.hid (HXF.out.below hwV)
  have HN0 := Lib.hid (HXN.out.below hwV)
  have hfw := hF.1
  have hnw := hN.1
  clear hI hF hN HXI HXF HXN hki hne
  have HS0 := Lib.hid (show Box V w.heap.size [.int .i64 y, .int .i64 (y + max high 1)] by rw [← hV]; exact Box.new2 _ _ _ _)
  have hms := hB.size
  have HVV := Lib.hid hV
  clear hV h hv hn hy hh hwV
  go_enter Tryz.func154, Tryz.ntmps154
  go_wp2_with fail
  rw [HVV.out]
  go_loopw [10, 11, 20] (fun xx ff i wr => ∃ (k : Nat) (s : Int) (t : Bool), i = .int .i64 (k : Int) ∧ k ≤ n ∧ Hid ((l.take k).foldl (leastStep (narrowF y high a b)) (0, false) = (s, t)) ∧ Hid (Box wr ki [.int .i64 a, .int .i64 b]) ∧ Hid (Box wr kf [.bool t]) ∧ Hid (Box wr kn [.int .i64 s]) ∧ Hid (Spare [kn, kf] w wr) ∧ Hid (Box wr w.heap.size [.int .i64 y, .int .i64 (y + max high 1)]) ∧ Hid (Below w0.heap.size w0 wr)) (fun _ _ i _ => n - (intOf i).toNat)
  case atStart => exact ⟨0, 0, false, rfl, Nat.zero_le _, Lib.hid rfl, HI0, HF0, HN0, HSP0, HS0, HB0⟩
  case round =>
    obtain ⟨k, s, t, rfl, hkn, HF, HI, HTF, HTN, HSP, HS, HB⟩ := hrel
    by_cases hlt : k < n
    · have hlt2 : (k : Int) < (n : Int) := by omega
      obtain ⟨b1, o1, f, rfl, hb1, hf, q0, q1, q2, q3, q4, q5, q6⟩ := fl_at (HA.out.below HB.out) hlt
      have HST := Lib.hid (foldl_one (leastStep (narrowF y high a b)) (0, false) hf)
      have HFN := Lib.hid (HN.out f (List.mem_of_getElem? hf))
      obtain ⟨v, hv⟩ : ∃ v, meetsF f y high = v := ⟨_, rfl⟩
      have HM := Lib.hid hv
      have HPL := Lib.hid (placed_to f)
      have HBX := Lib.hid (box7 wr f 67)
      have HAP := Lib.hid (meets_apart (f := f) (y := y) (high := high))
      have hHg : w0.heap.size ≤ wr.heap.size := HB.out.size
      have hfl := (Below.refl wr.heap.size wr).alloc (Nat.le_refl _) (.cells #[.int .i64 f.node, .int .i64 f.side, .int .i64 f.anchor, .int .i64 f.x, .int .i64 f.y, .int .i64 f.w, .int .i64 f.h] 67)
      have HSPG := Lib.hid (HSP.out.below hfl)
      clear hfl
      have HG := Lib.hid (HB.out.alloc (Nat.le_trans (Nat.le_refl _) hHg) (.cells #[.int .i64 f.node, .int .i64 f.side, .int .i64 f.anchor, .int .i64 f.x, .int .i64 f.y, .int .i64 f.w, .int .i64 f.h] 67))
      have HSG := Lib.hid (HS.out.alloc (.cells #[.int .i64 f.node, .int .i64 f.side, .int .i64 f.anchor, .int .i64 f.x, .int .i64 f.y, .int .i64 f.w, .int .i64 f.h] 67))
      have HIG := Lib.hid (HI.out.alloc (.cells #[.int .i64 f.node, .int .i64 f.side, .int .i64 f.anchor, .int .i64 f.x, .int .i64 f.y, .int .i64 f.w, .int .i64 f.h] 67))
      have HFG := Lib.hid (HTF.out.alloc (.cells #[.int .i64 f.node, .int .i64 f.side, .int .i64 f.anchor, .int .i64 f.x, .int .i64 f.y, .int .i64 f.w, .int .i64 f.h] 67))
      have HNG := Lib.hid (HTN.out.alloc (.cells #[.int .i64 f.node, .int .i64 f.side, .int .i64 f.anchor, .int .i64 f.x, .int .i64 f.y, .int .i64 f.w, .int .i64 f.h] 67))
      obtain ⟨f0, f1, f2, f3, f4, f5, f6⟩ := f
      obtain ⟨⟨x1, x2⟩, ⟨y1, y2⟩, ⟨u1, u2⟩, ⟨h1, h2⟩⟩ := HFN.out
      unfold farB at x1 x2 y1 y2 u1 u2 h1 h2
      simp only at q0 q1 q2 q3 q4 q5 q6 x1 x2 y1 y2 u1 u2 h1 h2
      have hwx : IntKind.i64.wrap (f3 + f5) = f3 + f5 := IntWalk.i64_in _ (by omega)
      have hwy : IntKind.i64.wrap (f4 + f6) = f4 + f6 := IntWalk.i64_in _ (by omega)
      have HWX := Lib.hid hwx
      have HWY := Lib.hid hwy
      clear hf hv hwx hwy
      go_wp2_with fail
      refine (HPL.out _).mono ?_
      rintro e w5 ⟨rfl, hb5⟩
      have HG5 := Lib.hid (HG.out.trans (hb5.mono HG.out.size))
      have HS5 := Lib.hid (HSG.out.below hb5)
      have HSP5 := Lib.hid (HSPG.out.below hb5)
      have HI5 := Lib.hid (HIG.out.below hb5)
      have HF5 := Lib.hid (HFG.out.below hb5)
      have HN5 := Lib.hid (HNG.out.below hb5)
      clear hb5 q0 q1 q2 q3 q4 q5 q6 HG HSG HBX HPL HIG HFG HNG
      go_wp2_with fail
      generalize hW : w5.alloc (.cells #[.int .i64 f3, .int .i64 f4, .int .i64 f5, .int .i64 f6, .int .i64 f1] 132) = W
      have HX := Lib.hid (show Box W w5.heap.size [.int .i64 f3, .int .i64 f4, .int .i64 f5, .int .i64 f6, .int .i64 f1] by rw [← hW]; exact Box.new5 _ _ _ _ _ _ _)
      have hB5W : Below w5.heap.size w5 W := by rw [← hW]; go_grown
      have HG6 := Lib.hid (HG5.out.trans (hB5W.mono HG5.out.size))
      have HS6 := Lib.hid (HS5.out.below hB5W)
      have HSP6 := Lib.hid (HSP5.out.below hB5W)
      have HI6 := Lib.hid (HI5.out.below hB5W)
      have HF6 := Lib.hid (HF5.out.below hB5W)
      have HN6 := Lib.hid (HN5.out.below hB5W)
      clear hW hB5W HG5 HS5
      have k0 := OnW.cell (W := W) HX.out.of5.1.1
      have k1 := OnW.cell (W := W) HX.out.of5.1.2.1
      have k2 := OnW.cell (W := W) HX.out.of5.1.2.2.1
      have k3 := OnW.cell (W := W) HX.out.of5.1.2.2.2.1
      have k4 := OnW.cell (W := W) HX.out.of5.1.2.2.2.2
      obtain ⟨j0, j1⟩ := OnW.of2 HS6.out
      have HC1 := Lib.hid (fun w => down_any f3 f4 f5 f6 w HWY.out)
      have HC2 := Lib.hid (fun w => show Calls Tryz.prog 162 #[.agg #[.int .i64 y, .int .i64 (y + max high 1)], .agg #[.int .i64 f4, .int .i64 (f4 + f6)]] w fun e w' => e = .returned (.bool (!v)) ∧ Below w.heap.size w w' from by rw [← HM.out, ← HAP.out]; exact apart_any _ _ _ _ _)
      refine wp_region_on (by kernel_rfl) (by kernel_rfl) ?_
      repeat (go_big_quiet_step ((first
        | (go_at_call 163; with_reducible exact Calls.on_of (HC1.out _))
        | (go_at_call 162; with_reducible exact Calls.on_of (HC2.out _)))))
      refine wpQuiet_nil ?_
      intro w7 hw'
      obtain ⟨⟨w8, hOn⟩, hw''⟩ := hw'
      obtain rfl : w7 = w8 := hw''
      have HG7 := Lib.hid (HG6.out.trans (Below.mono hOn HG6.out.size))
      have HS7 := Lib.hid (HS6.out.below hOn)
      have HSP7 := Lib.hid (HSP6.out.below hOn)
      have HI7 := Lib.hid (HI6.out.below hOn)
      have HF7 := Lib.hid (HF6.out.below hOn)
      have HN7 := Lib.hid (HN6.out.below hOn)
      obtain ⟨⟨z0, z1, z2, z3, z4⟩, hzs⟩ := (HX.out.below hOn).of5
      clear hOn k0 k1 k2 k3 k4 j0 j1 HG6 HS6 HX
      cases v with
      | false =>
        have HE := Lib.hid (show (l.take (k + 1)).foldl (leastStep (narrowF y high a b)) (0, false) = (s, t) by rw [HST.out, HF.out]; exact next_skip HM.out)
        go_wp2_with fail
        go_roundw
        case rel => exact ⟨k + 1, _, _, by go_num, by omega, HE, HI7, HF7, HN7, HSP7, HS7, HG7⟩
        case measure => simp [intOf] <;> omega
      | true =>
        obtain ⟨⟨s', t'⟩, hlv⟩ : ∃ r, nextV (narrowF y high a b ⟨f0, f1, f2, f3, f4, f5, f6⟩) (f4 + f6) (s, t) = r := ⟨_, rfl⟩
        have HE := Lib.hid (show (l.take (k + 1)).foldl (leastStep (narrowF y high a b)) (0, false) = (s', t') by rw [HST.out, HF.out, next_step]; exact hlv)
        have HLV := Lib.hid hlv
        have HNA := Lib.hid (leave_narrow (a := a) (b := b) HM.out)
        clear hlv
        go_wp2_with fail
        refine (next1_to HNA.out HLV.out HWX.out HWY.out HI7.out HF7.out HN7.out hzf hzn HNE.out HG7.out).mono ?_
        rintro e w9 ⟨rfl, hn9, hf9, hsp, hb9⟩
        have HI9 := Lib.hid (hsp _ _ (by simp; exact ⟨HKI.out.2, HKI.out.1⟩) HI7.out)
        have HF9 := Lib.hid hf9
        have HN9 := Lib.hid hn9
        have HS9 := Lib.hid (hsp _ _ (by simp; omega) HS7.out)
        have HSP9 := Lib.hid (HSP7.out.trans hsp)
        have HB9 := Lib.hid hb9
        clear hn9 hf9 hsp hb9
        go_wp2_with fail
        go_roundw
        case rel => exact ⟨k + 1, _, _, by go_num, by omega, HE, HI9, HF9, HN9, HSP9, HS9, HB9⟩
        case measure => simp [intOf] <;> omega
    · have hge : (n : Int) ≤ (k : Int) := by omega
      have HE := Lib.hid (show (s, t) = (p, q) by rw [← HV.out, ← HF.out, List.take_of_length_le (by have := HL.out; omega)]; rfl)
      go_wp2_with fail
      go_end0
      have he := HE.out
      injection he with e1 e2
      subst e1 e2
      exact ⟨rfl, HTN.out, HTF.out, HSP.out, HB.out⟩
end Go.Proofs.YtipmdhfinlkceaaGreat
