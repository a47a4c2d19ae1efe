import Derived.Test.YtikpbgkjghcidaaMarginLaws
/- Which steps are near; the walk of the law MarginSteps, if package margin says what it is asked. (Written by program: tools/drafts/gensteps13.py.) -/
namespace Go.Proofs.Ytikpbgkjghcidaa
open Go.RowKit
set_option linter.unusedVariables false
set_option linter.unusedSimpArgs false
theorem st_equal (a0 a1 a2 b0 b1 b2 : Int) (w : World) : (Op.equalIn 10000 33 (.agg #[.int .i64 a0, .int .i64 a1, .int .i64 a2]) (.agg #[.int .i64 b0, .int .i64 b1, .int .i64 b2])).run Try.prog w = .ok (a0 == b0 && (a1 == b1 && a2 == b2)) w := by
  rw [show (10000 : Nat) = 9999 + 1 from rfl, run_equalIn_struct w 9999 _ _ _ (by kernel_rfl) (by kernel_rfl)]
  have hi : ∀ (a b : Int) (w : World), (Op.equalIn 9999 3 (.int .i64 a) (.int .i64 b)).run Try.prog w = .ok (a == b) w := fun a b w => run_equalIn_int w 9998 3 .i64 .i64 a b Try.underlying3
  simp [Program.fieldsOf, Try.underlying33, Op.eqFields, part13, hi, itef13_and]
  simp only [itef13_ok]
  congr 1
  rw [Bool.eq_iff_iff]
  simp [and_assoc]
theorem st_same (a0 a1 a2 : Int) (w : World) : (Op.equalIn 10000 33 (.agg #[.int .i64 a0, .int .i64 a1, .int .i64 a2]) (.agg #[.int .i64 a0, .int .i64 a1, .int .i64 a2])).run Try.prog w = .ok true w := by rw [st_equal]; simp
theorem st_info : (Try.prog.info? 33).map (fun i => (i.zero, i.size, i.bytes)) = some (some (.agg #[.int .i64 0, .int .i64 0, .int .i64 0]), 3, 24) := by kernel_rfl
theorem two_near {a b : Int} : allNearB [a, b] = (nearIB a && nearIB b) := by unfold allNearB; simp
set_option maxHeartbeats 4000000 in
set_option maxRecDepth 100000 in
theorem mnear_to {l : List Stp} {y m : Int} {v : Bool} {A : Option Addr} {n c : Nat} {w : World} (hv : (decide (n ≤ 200) && stepsB y m l) = v) (h : Rows 3 encSt w A n l) :
    Calls Try.prog 5 #[.agg #[.int .i64 y, .int .i64 m], .slice A n c] w fun e w' => e = .returned (.bool v) ∧ Below w.heap.size w w' := by
  have HA := Lib.hid h
  have HL := Lib.hid h.1
  have hnb := h.2.1
  have HX := Lib.hid (Box.new2 w (.int .i64 y) (.int .i64 m) 23)
  clear h
  by_cases hbig : 200 < n
  · have hbig2 : (200 : Int) < (n : Int) := by omega
    have HV := Lib.hid (show false = v by rw [← hv, decide_eq_false (by omega)]; rfl)
    clear hv
    go_enter Try.func5, Try.ntmps5
    go_wp2_with fail
    go_ret
    exact ⟨ret_bool HV.out, by go_grown⟩
  have hbig2 : (n : Int) ≤ (200 : Int) := by omega
  have HV := Lib.hid (show stepsB y m l = v by rw [← hv, decide_eq_true (by omega)]; rfl)
  clear hv
  obtain ⟨u, hu⟩ : ∃ u, allNearB [y, m] = u := ⟨_, rfl⟩
  have HU := Lib.hid hu
  clear hu
  go_enter Try.func5, Try.ntmps5
  go_wp2_with fail
  refine (rnear13_to HU.out (Ints.new2' _ _ _ _ _ (by simp))).mono ?_
  rintro e w1 ⟨rfl, rfl⟩
  cases u with
  | false =>
    have HV2 := Lib.hid (show false = v by
      rw [← HV.out]
      have := HU.out
      rw [two_near] at this
      unfold stepsB
      rw [this]; rfl)
    go_wp2_with fail
    go_ret
    exact ⟨ret_bool HV2.out, by go_grown⟩
  | true =>
    have HYM := Lib.hid (show NearI y ∧ NearI m by
      have := HU.out
      rw [two_near] at this
      simp only [Bool.and_eq_true, nearIB_iff] at this
      exact this)
    obtain ⟨V, hV⟩ : ∃ V, (w.alloc (.cells #[.int .i64 y, .int .i64 m] 23)).alloc (.cells #[.int .i64 y, .int .i64 m] 3) = V := ⟨_, rfl⟩
    have HO := Lib.hid (show On w V by rw [← hV]; exact ((On.refl w).alloc _).alloc _)
    have HVV := Lib.hid hV
    clear hV HX
    go_wp2_with fail
    rw [HVV.out]
    go_loopw [5] (fun i wr => ∃ k : Nat, i = .int .i64 (k : Int) ∧ k ≤ n ∧ Hid (∀ (j : Nat) (s : Stp), j < k → l[j]? = some s → s.near) ∧ Hid (On w wr)) (fun i _ => n - (intOf i).toNat)
    case atStart => exact ⟨0, rfl, Nat.zero_le _, Lib.hid (fun j s hj => by omega), HO⟩
    case round =>
      obtain ⟨k, rfl, hkn, HK, HW⟩ := hrel
      by_cases hlt : k < n
      · have hlt2 : (k : Int) < (n : Int) := by omega
        obtain ⟨b1, o1, s, rfl, hb1, hs, q0, q1, q2⟩ := st_at (HA.out.on HW.out) hlt
        have HS := Lib.hid hs
        obtain ⟨s0, s1, s2⟩ := s
        simp only at q0 q1 q2
        have k1 := On.cell q1
        have k2 := On.cell q2
        obtain ⟨t, ht⟩ : ∃ t, allNearB [s1, s2] = t := ⟨_, rfl⟩
        have HT := Lib.hid ht
        clear hs q0 q1 q2 ht
        go_wp2_with fail
        go_region_held3 (fun W' => On wr W') (first | exact (On.refl _).drew | exact On.drew (by assumption) | exact On.alloc (by assumption) _ | assumption) (first
          | (go_at_call 6; ((with_reducible refine (rnear13_to HT.out (Ints.new2 _ _ _ _)).mono ?_); rintro e w3 ⟨rfl, rfl⟩))
          | (go_at_call 6; ((with_reducible refine (rnear13_to HT.out (ints_on (Ints.new2 _ _ _ _) (On.refl _).drew)).mono ?_); rintro e w3 ⟨rfl, rfl⟩)))
        rename_i hOn
        have HW2 := Lib.hid (show On w _ from below_then HW.out hOn)
        cases t with
        | false =>
          have HV2 := Lib.hid (show false = v by
            rw [← HV.out]
            refine (stepsB_no (fun q => ?_)).symm
            have h1 := q.2 _ (List.mem_of_getElem? HS.out)
            have h2 := HT.out
            rw [two_near, nearIB_iff.2 h1.1, nearIB_iff.2 h1.2] at h2
            exact absurd h2 (by decide))
          go_wp2_with fail
          go_ret
          exact ⟨ret_bool HV2.out, HW2.out⟩
        | true =>
          have HK2 := Lib.hid (show ∀ (j : Nat) (s : Stp), j < k + 1 → l[j]? = some s → s.near from fun j x hj hx => by
            rcases Nat.lt_or_ge j k with h | h
            · exact HK.out j x h hx
            · obtain rfl : j = k := by omega
              rw [HS.out] at hx
              injection hx with hx
              subst hx
              have h2 := HT.out
              rw [two_near] at h2
              simp only [Bool.and_eq_true, nearIB_iff] at h2
              exact h2)
          go_wp2_with fail
          go_roundw
          case rel => exact ⟨k + 1, by go_num, by omega, HK2, HW2⟩
          case measure => simp [intOf] <;> omega
      · have hge : (n : Int) ≤ (k : Int) := by omega
        have HV2 := Lib.hid (show true = v by
          rw [← HV.out]
          refine (stepsB_iff.2 ⟨HYM.out, fun s hs => ?_⟩).symm
          obtain ⟨j, hj, rfl⟩ := List.getElem_of_mem hs
          exact HK.out j _ (by have := HL.out; omega) (List.getElem?_eq_getElem hj))
        go_wp2_with fail
        go_ret
        exact ⟨ret_bool HV2.out, HW.out⟩
set_option maxHeartbeats 16000000 in
set_option maxRecDepth 100000 in
theorem marginsteps_all (H : MarginSays) {A : Option Addr} {n c : Nat} {l : List Stp} {y m a b : Int} {w : World} (hz : Rows 3 encSt w A n l) :
    Calls Try.prog 3 #[.agg #[.int .i64 y, .int .i64 m], .slice A n c, .int .i64 a, .int .i64 b] w fun e w' => e = .returned (.bool true) ∧ Below w.heap.size w w' := by
  have HH := Lib.hid H
  have HA := Lib.hid hz
  have HL := Lib.hid hz.1
  have hnb := hz.2.1
  obtain ⟨i0, hi0, hz0, hz1, hz2⟩ := info_parts st_info
  obtain ⟨W, hW⟩ : ∃ W, w.alloc (.cells #[.int .i64 y, .int .i64 m] 23) = W := ⟨_, rfl⟩
  have HB := Lib.hid (show Below w.heap.size w W by rw [← hW]; go_grown)
  have HX := Lib.hid (show Box W w.heap.size [.int .i64 y, .int .i64 m] by rw [← hW]; exact Box.new2 _ _ _ _)
  have HWW := Lib.hid hW
  obtain ⟨v, hv⟩ : ∃ v, (decide (n ≤ 200) && stepsB y m l) = v := ⟨_, rfl⟩
  have HV := Lib.hid hv
  clear H hz hW hv
  obtain ⟨k0, k1, k2, k3, k4⟩ := HX.out.of2
  go_enter Try.func3, Try.ntmps3
  go_wp2_with ((with_reducible refine stop_dst 15 ?_ ?_); exact rfl)
  refine Stop.intro ?_
  rw [HWW.out]
  go_wp2_with fail
  refine (mnear_to HV.out (HA.out.below HB.out)).mono ?_
  rintro e w1 ⟨rfl, hb⟩
  have HB := Lib.hid (below_then HB.out hb)
  have HX := Lib.hid (HX.out.below hb)
  clear hb k0 k1 k2 k3 k4
  cases v with
  | false =>
    go_wp2_with fail
    refine (mawake_any HH.out _).mono ?_
    rintro e w9 ⟨rfl, hb9⟩
    have HB9 := Lib.hid (below_then HB.out hb9)
    clear hb9
    go_wp2_with fail
    go_ret
    exact ⟨rfl, HB9.out⟩
  | true =>
    have hvv := HV.out
    simp only [Bool.and_eq_true, decide_eq_true_iff] at hvv
    obtain ⟨hsm, hst⟩ := hvv
    obtain ⟨⟨hy, hm⟩, hns⟩ := stepsB_iff.1 hst
    have HY := Lib.hid hy
    have HM := Lib.hid hm
    have HN := Lib.hid hns
    have HPS := Lib.hid (PenB.start hy hm)
    clear hst hy hm hns
    have hn2 : n ≤ 1000 := by omega
    obtain ⟨u, hu⟩ : ∃ u, allNearB [a, b] = u := ⟨_, rfl⟩
    have HU := Lib.hid hu
    clear hu
    go_wp2_with fail
    refine (rnear13_to HU.out (Ints.new2 _ _ _ _)).mono ?_
    rintro e w2 ⟨rfl, rfl⟩
    have HB := Lib.hid (HB.out.alloc HB.out.size (.cells #[.int .i64 a, .int .i64 b] 3))
    have HX := Lib.hid (HX.out.alloc (.cells #[.int .i64 a, .int .i64 b] 3))
    cases u with
    | false =>
      go_wp2_with fail
      refine (mawake_any HH.out _).mono ?_
      rintro e w9 ⟨rfl, hb9⟩
      have HB9 := Lib.hid (below_then HB.out hb9)
      clear hb9
      go_wp2_with fail
      go_ret
      exact ⟨rfl, HB9.out⟩
    | true =>
      have huu := HU.out
      rw [two_near] at huu
      simp only [Bool.and_eq_true, nearIB_iff] at huu
      obtain ⟨ha, hb⟩ := huu
      have hw1 : IntKind.i64.wrap (y + m) = y + m := by
        have h1 := HY.out; have h2 := HM.out
        unfold NearI farB at h1 h2
        exact wrap_far (by omega)
      have hw2 : IntKind.i64.wrap (a + b) = a + b := by
        unfold NearI farB at ha hb
        exact wrap_far (by omega)
      have Ha := Lib.hid ha
      have Hb := Lib.hid hb
      clear ha hb
      go_wp2_with ((with_reducible refine stop_dst 27 ?_ ?_); exact rfl)
      refine Stop.intro ?_
      generalize w1.alloc (.cells #[.int .i64 a, .int .i64 b] 3) = v1 at HB HX ⊢
      go_wp2_with ((with_reducible refine stop_dst 29 ?_ ?_); exact rfl)
      refine Stop.intro ?_
      have hO : (v1.alloc (.cells #[] 33)).ownsRow v1.heap.size 33 3 (.slice (some ⟨v1.heap.size, 0, none⟩) 0 0) 0 [] := World.ownsRow_made v1 #[] 0 (Nat.le_refl _) (by decide) rfl
      have hC : Cells (v1.alloc (.cells #[] 33)) A n 3 (l.flatMap encSt) := ((HA.out.below HB.out).below ((Below.refl _ _).alloc (Nat.le_refl _) _)).cells encSt_len (by decide)
      have hXa := HX.out.alloc (.cells #[] 33)
      refine wpList_append_cells _ rfl (.tmp 27) (.tmp 28) _ rfl v1.heap.size 33 i0 (.agg #[.int .i64 0, .int .i64 0, .int .i64 0]) 3 24 Try.underlying24 hi0 hz0 hz1 hz2 rfl (by decide) _ 0 [] rfl hO A n c _ rfl hC (sts_one l) (by unfold maxLen; omega) (by omega) (by simp) ?_
      intro A1 c1 w2 hown1 hg1
      simp only [Nat.zero_add, List.nil_append] at hown1
      have hb1 : Below v1.heap.size v1 w2 := ((Below.refl _ _).alloc (Nat.le_refl _) _).grown hg1 (by simp) (by intro k hk; cases hk; exact Nat.le_refl _)
      have HI1 := Lib.hid (ownsRow_rows (enc := encSt) encSt_len (by decide) hown1)
      have HI := Lib.hid ((HA.out.below HB.out).below hb1)
      have HX := Lib.hid (HX.out.below hb1)
      have HB := Lib.hid (below_then HB.out hb1)
      clear hown1 hg1 hb1 hO hC hXa hi0 hz0 hz1 hz2
      rw [Nat.zero_add]
      obtain ⟨⟨p1, p2⟩, hp⟩ : ∃ r, penL (y, m) l = r := ⟨_, rfl⟩
      have HP := Lib.hid hp
      clear hp
      obtain ⟨k0, k1, k2, k3, k4⟩ := HX.out.of2
      go_wp2_with fail
      refine (HH.out.run HP.out rfl HY.out HM.out HN.out hn2 HI1.out).mono ?_
      rintro e w3 ⟨A3, n3, c3, rfl, h3, hI3, hb, _⟩
      have HI3 := Lib.hid hI3
      have HI1 := Lib.hid (HI1.out.below hb)
      have HI := Lib.hid (HI.out.below hb)
      have HX := Lib.hid (HX.out.below hb)
      have HB := Lib.hid (below_then HB.out hb)
      clear hI3 hb k0 k1 k2 k3 k4 h3
      go_wp2_with ((with_reducible refine stop_dst 37 ?_ ?_); exact rfl)
      refine Stop.intro ?_
      have HE := Lib.hid (Box.new2 w3 (.int .i64 p1) (.int .i64 p2) 23)
      have hbz : Below w3.heap.size w3 (w3.alloc (.cells #[.int .i64 p1, .int .i64 p2] 23)) := (Below.refl _ _).alloc (Nat.le_refl _) _
      have HI3 := Lib.hid (ints_on HI3.out hbz)
      have HI1 := Lib.hid (HI1.out.below hbz)
      have HI := Lib.hid (HI.out.below hbz)
      have HX := Lib.hid (HX.out.below hbz)
      have HB := Lib.hid (below_then HB.out hbz)
      clear hbz
      generalize w3.heap.size = B3 at HE ⊢
      generalize w3.alloc (.cells #[.int .i64 p1, .int .i64 p2] 23) = v3 at HE HI3 HI1 HI HX HB ⊢
      obtain ⟨k0, k1, k2, k3, k4⟩ := HX.out.of2
      go_wp2_with fail
      refine (rrun13_to HY.out HM.out HN.out hn2 HI.out).mono ?_
      rintro e w4 ⟨A4, n4, c4, rfl, h4, hO4, hb⟩
      rw [HP.out]
      have HI4 := Lib.hid ((ownsRow_cells hO4).ints)
      have HI3 := Lib.hid (ints_on HI3.out hb)
      have HE := Lib.hid (HE.out.below hb)
      have HI1 := Lib.hid (HI1.out.below hb)
      have HI := Lib.hid (HI.out.below hb)
      have HX := Lib.hid (HX.out.below hb)
      have HB := Lib.hid (below_then HB.out hb)
      clear hO4 hb k0 k1 k2 k3 k4 h4
      go_wp2_with fail
      have HF := Lib.hid (Box.new2 w4 (.int .i64 p1) (.int .i64 p2) 23)
      have hbz : Below w4.heap.size w4 (w4.alloc (.cells #[.int .i64 p1, .int .i64 p2] 23)) := (Below.refl _ _).alloc (Nat.le_refl _) _
      have HI4 := Lib.hid (ints_on HI4.out hbz)
      have HI3 := Lib.hid (ints_on HI3.out hbz)
      have HE := Lib.hid (HE.out.below hbz)
      have HI1 := Lib.hid (HI1.out.below hbz)
      have HI := Lib.hid (HI.out.below hbz)
      have HX := Lib.hid (HX.out.below hbz)
      have HB := Lib.hid (below_then HB.out hbz)
      clear hbz
      generalize w4.heap.size = B4 at HF ⊢
      generalize w4.alloc (.cells #[.int .i64 p1, .int .i64 p2] 23) = v4 at HF HI4 HE HI3 HI1 HI HX HB ⊢
      have hst := st_same
      go_loopw [14] (fun i wr => ∃ k q : Nat, i = .int .i64 (k : Int) ∧ k ≤ n ∧ wr = v4.drewN q) (fun i _ => n - (intOf i).toNat)
      case atStart => exact ⟨0, 0, rfl, Nat.zero_le _, rfl⟩
      case round =>
        obtain ⟨k, q, rfl, hkn, rfl⟩ := hrel
        by_cases hlt : k < n
        · have hlt2 : (k : Int) < (n : Int) := by omega
          obtain ⟨b5, o5, s, rfl, hb5, hs, q0, q1, q2⟩ := st_at HI.out hlt
          obtain ⟨b6, o6, s', rfl, hb6, hs', r0, r1, r2⟩ := st_at HI1.out hlt
          rw [hs] at hs'
          injection hs' with e1
          subst e1
          obtain ⟨s0, s1, s2⟩ := s
          simp only at q0 q1 q2 r0 r1 r2
          clear hs
          go_wp2_with fail
          go_quiet (fail)
          go_wp2_with fail
          go_roundw
          case rel => exact ⟨k + 1, _, by go_num, by omega, rfl⟩
          case measure => simp [intOf] <;> omega
        · have hge : (n : Int) ≤ (k : Int) := by omega
          generalize hW9 : v4.drewN q = W9
          have hbz : Below v4.heap.size v4 W9 := by rw [← hW9]; exact below_drewN (Below.refl _ _) q
          have HI4 := Lib.hid (ints_on HI4.out hbz)
          have HI3 := Lib.hid (ints_on HI3.out hbz)
          have HE := Lib.hid (HE.out.below hbz)
          have HF := Lib.hid (HF.out.below hbz)
          have HX := Lib.hid (HX.out.below hbz)
          have HB := Lib.hid (below_then HB.out hbz)
          clear hbz hW9 hst
          obtain ⟨⟨e1, e2⟩, h1⟩ : ∃ r, enterP (y, m) a b = r := ⟨_, rfl⟩
          obtain ⟨⟨l1, l2⟩, h2⟩ : ∃ r, leaveP (y, m) a b = r := ⟨_, rfl⟩
          obtain ⟨⟨c1', c2⟩, h3⟩ : ∃ r, clearP (y, m) a = r := ⟨_, rfl⟩
          have R1 := Lib.hid h1
          have R2 := Lib.hid h2
          have R3 := Lib.hid h3
          clear h1 h2 h3
          have C1 := Lib.hid (show ∀ p' : OnW W9, Calls Try.prog 10 #[.slice A3 n3 c3, .slice A4 n4 c4] p'.w fun e w' => e = .returned (.bool true) ∧ Below p'.w.heap.size p'.w w' from fun p' => rnumbers_to (v := true) (by simp) (ints_on HI3.out p'.h) (ints_on HI4.out p'.h))
          have C2 := Lib.hid (show ∀ p' : OnW W9, Calls Try.prog 11 #[.agg #[.int .i64 y, .int .i64 m]] p'.w fun e w' => e = .returned (.int .i64 (y + m)) ∧ Below p'.w.heap.size p'.w w' from fun p' => HH.out.at_ HY.out HM.out)
          have C3 := Lib.hid (show ∀ p' : OnW W9, Calls Try.prog 12 #[.agg #[.int .i64 y, .int .i64 m], .int .i64 a, .int .i64 b] p'.w fun e w' => e = .returned (.agg #[.int .i64 e1, .int .i64 e2]) ∧ Below p'.w.heap.size p'.w w' from fun p' => HH.out.enter R1.out HY.out HM.out Ha.out Hb.out)
          have C4 := Lib.hid (show ∀ p' : OnW W9, Calls Try.prog 13 #[.agg #[.int .i64 y, .int .i64 m], .int .i64 a, .int .i64 b] p'.w fun e w' => e = .returned (.agg #[.int .i64 e1, .int .i64 e2]) ∧ Below p'.w.heap.size p'.w w' from fun p' => renter_to R1.out HPS.out (by decide) Ha.out Hb.out _)
          have C5 := Lib.hid (show ∀ p' : OnW W9, Calls Try.prog 14 #[.agg #[.int .i64 y, .int .i64 m], .int .i64 a, .int .i64 b] p'.w fun e w' => e = .returned (.agg #[.int .i64 l1, .int .i64 l2]) ∧ Below p'.w.heap.size p'.w w' from fun p' => HH.out.leave R2.out HY.out HM.out Ha.out Hb.out)
          have C6 := Lib.hid (show ∀ p' : OnW W9, Calls Try.prog 15 #[.agg #[.int .i64 y, .int .i64 m], .int .i64 a, .int .i64 b] p'.w fun e w' => e = .returned (.agg #[.int .i64 l1, .int .i64 l2]) ∧ Below p'.w.heap.size p'.w w' from fun p' => rleave_to R2.out HPS.out (by decide) Ha.out Hb.out _)
          have C7 := Lib.hid (show ∀ p' : OnW W9, Calls Try.prog 16 #[.agg #[.int .i64 y, .int .i64 m], .int .i64 a] p'.w fun e w' => e = .returned (.agg #[.int .i64 c1', .int .i64 c2]) ∧ Below p'.w.heap.size p'.w w' from fun p' => HH.out.clear R3.out HY.out HM.out Ha.out)
          have C8 := Lib.hid (show ∀ p' : OnW W9, Calls Try.prog 17 #[.agg #[.int .i64 y, .int .i64 m], .int .i64 a] p'.w fun e w' => e = .returned (.agg #[.int .i64 c1', .int .i64 c2]) ∧ Below p'.w.heap.size p'.w w' from fun p' => rclear_to R3.out HPS.out (by decide) Ha.out _)
          have C9 := Lib.hid (show ∀ p' : OnW W9, Calls Try.prog 18 #[.agg #[.int .i64 y, .int .i64 m], .int .i64 a, .int .i64 b] p'.w fun e w' => e = .returned (.agg #[.int .i64 (a + b), .int .i64 0]) ∧ Below p'.w.heap.size p'.w w' from fun p' => HH.out.put Ha.out Hb.out)
          have C10 := Lib.hid (show ∀ p' : OnW W9, Calls Try.prog 19 #[.int .i64 (a + b), .int .i64 0] p'.w fun e w' => e = .returned (.agg #[.int .i64 (a + b), .int .i64 0]) ∧ Below p'.w.heap.size p'.w w' from fun p' => pen_to _ _ _)
          have C11 := Lib.hid (show ∀ p' : OnW W9, Calls Try.prog 7 #[] p'.w fun e w' => e = .returned (.bool true) ∧ Below p'.w.heap.size p'.w w' from fun p' => mawake_any HH.out _)
          obtain ⟨k0, k1⟩ := OnW.of2 HX.out
          obtain ⟨j0, j1⟩ := OnW.of2 HE.out
          obtain ⟨d0, d1⟩ := OnW.of2 HF.out
          have he := pn_same
          go_wp2_with fail
          refine wp_region_on (by kernel_rfl) (by kernel_rfl) ?_
          repeat (go_big_quiet_step ((first
      | (go_at_call 10; with_reducible exact Calls.on_of (C1.out _))
      | (go_at_call 11; with_reducible exact Calls.on_of (C2.out _))
      | (go_at_call 12; with_reducible exact Calls.on_of (C3.out _))
      | (go_at_call 13; with_reducible exact Calls.on_of (C4.out _))
      | (go_at_call 14; with_reducible exact Calls.on_of (C5.out _))
      | (go_at_call 15; with_reducible exact Calls.on_of (C6.out _))
      | (go_at_call 16; with_reducible exact Calls.on_of (C7.out _))
      | (go_at_call 17; with_reducible exact Calls.on_of (C8.out _))
      | (go_at_call 18; with_reducible exact Calls.on_of (C9.out _))
      | (go_at_call 19; with_reducible exact Calls.on_of (C10.out _))
      | (go_at_call 7; with_reducible exact Calls.on_of (C11.out _)))))
          refine wpQuiet_nil ?_
          intro w9 hw'
          obtain ⟨⟨w', hOn⟩, hw''⟩ := hw'
          obtain rfl : w9 = w' := hw''
          have HB9 := Lib.hid (below_then HB.out hOn)
          clear hOn k0 k1 j0 j1 d0 d1
          go_wp2_with fail
          go_ret
          exact ⟨rfl, HB9.out⟩
end Go.Proofs.Ytikpbgkjghcidaa
