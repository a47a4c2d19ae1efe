import Derived.Test.YtamakeogaipdiaaJA31
import Derived.Test.YtamakeogaipdiaaJA12
/- The walk of the law KinTells. (Written by program: tools/drafts/genlaws16.py.) -/
namespace Go.Proofs.Ytamakeogaipdiaa
open Go.RowKit
set_option linter.unusedVariables false
set_option linter.unusedSimpArgs false
theorem nds_same16 (L : List Nd) : ndsB L L = true := by unfold ndsB; simp
theorem kinA_bad {L : List Nd} {of : List Int} {k : Int} (h : kinB L of = false) : kinA L of k = (Kn.no, 4) := by
  unfold kinA
  rw [h, Bool.false_and, if_neg (by decide)]
theorem kinA_out {L : List Nd} {of : List Int} {k : Int} (h : k < 0 ∨ (of.length : Int) < k) : kinA L of k = (Kn.no, 4) := by
  unfold kinA
  rw [if_neg]
  simp only [Bool.and_eq_true, decide_eq_true_eq]
  rintro ⟨_, h1, h2⟩
  omega
theorem kinA_in {L : List Nd} {of : List Int} {k : Int} (h : kinB L of = true) (h0 : 0 ≤ k) (h1 : k ≤ (of.length : Int)) : kinA L of k = (kinK L of k, 0) := by
  unfold kinA
  rw [h, decide_eq_true h0, decide_eq_true h1, if_pos (show (true && (true && true)) = true from rfl)]
theorem heldK_out {L : List Nd} {of : List Int} {b : Int} (h : b < 0 ∨ (L.length : Int) ≤ b) : heldK L of b = (0, 0) := by
  unfold heldK
  by_cases h0 : 0 ≤ b
  · rw [if_pos h0, List.getElem?_eq_none_iff.2 (by omega)]
  · rw [if_neg h0]
set_option maxHeartbeats 16000000 in
set_option maxRecDepth 100000 in
theorem kintells_all {L : List Nd} {of : List Int} {k bk : Int} {A B : Option Addr} {n c m d : Nat} {w : World} (hS : Sees w A n L) (hI : Ints w B m of) :
    Calls Try.prog 3 #[.slice A n c, .slice B m d, .int .i64 k, .int .i64 bk] w fun e w' => e = .returned (.bool true) ∧ Below w.heap.size w w' := by
  have HS := Lib.hid hS
  have HI := Lib.hid hI
  have HLN := Lib.hid hS.len
  have HLO := Lib.hid hI.1
  have hnb := hS.bound
  have hmb := hI.2.1
  obtain ⟨i0, hi0, hz0, hz1, hz2⟩ := info_parts kin_info16
  rcases hv : vast16 L of with _ | _
  rotate_left
  · have HV := Lib.hid hv
    clear hv hS hI
    go_enter Try.func3, Try.ntmps3
    go_wp2_with fail
    refine (vast16_to HV.out HS.out HI.out).mono ?_
    rintro e w1 ⟨rfl, rfl⟩
    go_wp2_with fail
    refine (awake16_any _).mono ?_
    rintro e w2 ⟨rfl, hb⟩
    have HB := Lib.hid hb
    clear hb
    go_wp2_with fail
    go_ret
    exact ⟨rfl, HB.out⟩
  have HV := Lib.hid hv
  obtain ⟨v1, v2, v3⟩ := vast16_no hv
  have hn : n ≤ 60 := by have := HLN.out; omega
  have hm : m ≤ 200 := by have := HLO.out; omega
  have HW := Lib.hid (show ∀ y ∈ L, y.words.length ≤ 600000 from fun y hy => Nat.le_trans (v3 y hy) (by decide))
  obtain ⟨⟨x, f1⟩, hx⟩ : ∃ z, kinA L of k = z := ⟨_, rfl⟩
  obtain ⟨⟨p, q⟩, hh⟩ : ∃ z, heldA L of bk = z := ⟨_, rfl⟩
  obtain ⟨cv, hcv⟩ : ∃ z, chkK L of = z := ⟨_, rfl⟩
  have HX := Lib.hid hx
  have HH := Lib.hid hh
  have HC := Lib.hid hcv
  clear hv hS hI v1 v2 v3 hx hh hcv
  go_enter Try.func3, Try.ntmps3
  go_wp2_with fail
  refine (vast16_to HV.out HS.out HI.out).mono ?_
  rintro e w1 ⟨rfl, rfl⟩
  go_wp2_with fail
  refine (rown_any L A n c w HS.out (by omega) HW.out).mono ?_
  rintro e w1 ⟨A5, c5, rfl, hN, hb⟩
  have HN := Lib.hid hN.sees
  have HO1 := Lib.hid (show On w w1 from hb)
  clear hN hb
  go_wp2_with ((with_reducible refine stop_dst 26 ?_ ?_); exact rfl)
  refine Stop.intro ?_
  have hU : On w1 (w1.alloc (.cells #[] 3)) := On.alloc (On.refl w1) _
  have hO0 : (w1.alloc (.cells #[] 3)).ownsRow w1.heap.size 3 1 (.slice (some ⟨w1.heap.size, 0, none⟩) 0 0) 0 [] := ⟨rfl, .inr ⟨w1.heap.size, 0, #[], rfl, Nat.le_refl _, World.alloc_heap_new w1 _, by decide, by decide, by decide, by simp⟩⟩
  have hC1 : Cells (w1.alloc (.cells #[] 3)) B m 1 (of.map (Value.int .i64)) := (HI.out.below (HO1.out.step hU) rfl).cells
  refine wpList_append_cells _ rfl (.tmp 24) (.tmp 25) _ rfl w1.heap.size 3 i0 (.int .i64 0) 1 8 Try.underlying23 hi0 hz0 hz1 hz2 rfl (by decide) (.slice (some ⟨w1.heap.size, 0, none⟩) 0 0) 0 _ rfl hO0 B m d _ rfl hC1 (ints_ones _) (by unfold maxLen; omega) (by omega) (by simp) ?_
  intro A6 c6 w3 hown hg
  have hg : (w1.alloc (.cells #[] 3)).grownBy w3 (some w1.heap.size) := hg
  rw [Nat.zero_add, List.nil_append] at hown
  have h13 : On w1 w3 := below_grown16 hU hg (fun r hr => by injection hr with hr; omega)
  have HM := Lib.hid ((ownsRow_cells hown).ints)
  have HP := Lib.hid (show PreV L w3 A5 n from ⟨HN.out.below h13, by omega⟩)
  have HO3 := Lib.hid (show On w w3 from HO1.out.step h13)
  clear hown hg hU hO0 hC1 h13 HN HO1
  simp only [Nat.zero_add]
  go_wp2_with fail
  refine (katA_to HX.out HP.out HM.out (by omega)).mono ?_
  rintro e w4 ho
  obtain ⟨A1, n1, c1, A2, n2, c2, A3, n3, c3, t, rfl, hs, hb⟩ := ho.open_
  have HK := Lib.hid hs
  have H4 := Lib.hid (show On w3 w4 from hb)
  clear ho hs hb
  go_wp2_with fail
  generalize hV : World.alloc w4 _ = V
  have hal : On w4 V := by rw [← hV]; exact On.alloc (On.refl w4) _
  have HXB := Lib.hid (show Box V w4.heap.size [.slice A1 n1 c1, .slice A2 n2 c2, .slice A3 n3 c3, .int .i64 t] by rw [← hV]; exact box_new16 _ _ _ _ rfl _ rfl)
  have HKV := Lib.hid (HK.out.below hal)
  have H5 := Lib.hid (show On w3 V from On.step H4.out hal)
  clear hV hal HK H4
  refine (kHeld_to HH.out (HP.out.below H5.out) (HM.out.below H5.out rfl) (by omega)).mono ?_
  rintro e w6 ⟨rfl, hb⟩
  have H6 := Lib.hid (show On V w6 from hb)
  clear hb
  go_wp2_with fail
  refine (vkchk_to HC.out (HS.out.below (HO3.out.step (On.step H5.out H6.out))) (HI.out.below (HO3.out.step (On.step H5.out H6.out)) rfl) (by omega) (by omega)).mono ?_
  rintro e w7 ⟨rfl, hb⟩
  have H7 := Lib.hid (show On V w7 from On.step H6.out hb)
  clear hb H6
  go_wp2_with fail
  refine (kCheck_to HC.out (HP.out.below (On.step H5.out H7.out)) (HM.out.below (On.step H5.out H7.out) rfl) (by omega)).mono ?_
  rintro e w8 ⟨rfl, hb⟩
  have H8 := Lib.hid (show On V w8 from On.step H7.out hb)
  have hcc : (cv != cv) = false := by simp
  clear hb H7
  go_wp2_with fail
  refine (rsame_any L L _ _ _ _ _ _ w8 (HP.out.1.below (On.step H5.out H8.out)) (HS.out.below (HO3.out.step (On.step H5.out H8.out)))).mono ?_
  rintro e w9 ⟨rfl, hb⟩
  have H9 := Lib.hid (show On V w9 from On.step H8.out hb)
  rw [nds_same16]
  clear hb H8
  go_wp2_with fail
  refine (vints_same (HM.out.below (On.step H5.out H9.out) rfl) (HI.out.below (HO3.out.step (On.step H5.out H9.out)) rfl)).mono ?_
  rintro e w10 ⟨rfl, hb⟩
  have HA := Lib.hid (show On V w10 from On.step H9.out hb)
  have HOV := Lib.hid (HO3.out.step H5.out)
  clear hb H9 hcc
  rcases hk : kinB L of with _ | _
  · obtain rfl : cv = 4 := by rw [← HC.out]; unfold chkK; rw [hk]; rfl
    have hx9 := HX.out
    rw [kinA_bad hk] at hx9
    injection hx9 with e1 e2
    subst e1 e2
    have hh9 := HH.out
    unfold heldA at hh9
    rw [hk, if_neg (by decide)] at hh9
    injection hh9 with e1 e2
    subst e1 e2
    clear hk
    have hbx := HXB.out.below HA.out
    have x0 := hbx.2.2 0 _ rfl
    have x1 := hbx.2.2 1 _ rfl
    have x2 := hbx.2.2 2 _ rfl
    have x3 := hbx.2.2 3 _ rfl
    clear hbx
    go_wp2_with fail
    refine (vksame_to (HKV.out.below HA.out) (KnSee.no w10)).mono ?_
    rintro e w11 ⟨rfl, hb⟩
    have HB := Lib.hid (show On V w11 from On.step HA.out hb)
    clear hb x0 x1 x2 x3
    go_wp2_with fail
    refine (awake16_any _).mono ?_
    rintro e w12 ⟨rfl, hb⟩
    have HD := Lib.hid (HOV.out.step (On.step HB.out hb))
    clear hb
    go_wp2_with fail
    go_ret
    exact ⟨rfl, HD.out⟩
  obtain rfl : cv = 0 := by rw [← HC.out]; unfold chkK; rw [hk]; rfl
  have HKB := Lib.hid hk
  have HHK := Lib.hid (show heldK L of bk = (p, q) by rw [← HH.out]; unfold heldA; rw [hk]; rfl)
  have hpp : (p != p) = false := by simp
  have hqq : (q != q) = false := by simp
  clear hk
  have hbc : (∃ i : Nat, bk = (i : Int) ∧ i < n) ∨ bk < 0 ∨ (0 ≤ bk ∧ (n : Int) ≤ bk) := by
    by_cases h1 : bk < 0
    · exact .inr (.inl h1)
    · by_cases h2 : (n : Int) ≤ bk
      · exact .inr (.inr ⟨by omega, h2⟩)
      · exact .inl ⟨bk.toNat, by omega, by omega⟩
  rcases hbc with ⟨i, rfl, hin⟩ | hb0 | ⟨hb0, hb1⟩
  · have hin2 : (i : Int) < (n : Int) := by omega
    have hi00 : (0 : Int) ≤ (i : Int) := by omega
    go_wp2_with fail
    refine (vkheld_to (kin_ok HKB.out) HHK.out (HS.out.below (HOV.out.step HA.out)) (HI.out.below (HOV.out.step HA.out) rfl) (by omega) (by omega) (by have := HLN.out; omega)).mono ?_
    rintro e w11 ⟨rfl, rfl⟩
    by_cases k1 : k < 0
    · have hx9 := HX.out
      rw [kinA_out (.inl k1)] at hx9
      injection hx9 with e1 e2
      subst e1 e2
      have hbx := HXB.out.below HA.out
      have x0 := hbx.2.2 0 _ rfl
      have x1 := hbx.2.2 1 _ rfl
      have x2 := hbx.2.2 2 _ rfl
      have x3 := hbx.2.2 3 _ rfl
      clear hbx
      go_wp2_with fail
      refine (vksame_to (HKV.out.below HA.out) (KnSee.no w10)).mono ?_
      rintro e w12 ⟨rfl, hb⟩
      have HB := Lib.hid (show On V w12 from On.step HA.out hb)
      clear hb x0 x1 x2 x3
      go_wp2_with fail
      refine (awake16_any _).mono ?_
      rintro e w13 ⟨rfl, hb⟩
      have HD := Lib.hid (HOV.out.step (On.step HB.out hb))
      clear hb
      go_wp2_with fail
      go_ret
      exact ⟨rfl, HD.out⟩
    by_cases k2 : (m : Int) < k
    · have hx9 := HX.out
      rw [kinA_out (.inr (by have := HLO.out; omega))] at hx9
      injection hx9 with e1 e2
      subst e1 e2
      have k1' : 0 ≤ k := by omega
      have hbx := HXB.out.below HA.out
      have x0 := hbx.2.2 0 _ rfl
      have x1 := hbx.2.2 1 _ rfl
      have x2 := hbx.2.2 2 _ rfl
      have x3 := hbx.2.2 3 _ rfl
      clear hbx
      go_wp2_with fail
      refine (vksame_to (HKV.out.below HA.out) (KnSee.no w10)).mono ?_
      rintro e w12 ⟨rfl, hb⟩
      have HB := Lib.hid (show On V w12 from On.step HA.out hb)
      clear hb x0 x1 x2 x3
      go_wp2_with fail
      refine (awake16_any _).mono ?_
      rintro e w13 ⟨rfl, hb⟩
      have HD := Lib.hid (HOV.out.step (On.step HB.out hb))
      clear hb
      go_wp2_with fail
      go_ret
      exact ⟨rfl, HD.out⟩
    obtain ⟨k0, rfl⟩ : ∃ k0 : Nat, k = (k0 : Int) := ⟨k.toNat, by omega⟩
    have hkm : k0 ≤ m := by omega
    have k3 : (0 : Int) ≤ (k0 : Int) := by omega
    have k4 : (k0 : Int) ≤ (m : Int) := by omega
    have hx9 := HX.out
    rw [kinA_in HKB.out k3 (by have := HLO.out; omega)] at hx9
    injection hx9 with e1 e2
    subst e1 e2
    clear k1 k2
    have x0 := On.cell ((HXB.out.below HA.out).2.2 0 _ rfl)
    have x1 := On.cell ((HXB.out.below HA.out).2.2 1 _ rfl)
    have x2 := On.cell ((HXB.out.below HA.out).2.2 2 _ rfl)
    have x3 := On.cell ((HXB.out.below HA.out).2.2 3 _ rfl)
    go_wp2_with fail
    refine wp_region_held_tail 13 (S := fun W' => On w10 W') (by kernel_rfl) (by kernel_rfl) rfl (On.refl _).drew (fun h0 => ?_)
    simp only [headOf, List.take_succ_cons, List.take_zero, List.getElem_toArray, List.getElem_cons_succ, List.getElem_cons_zero]
    refine wpAnyH_take (i := 0) (v := ?_) rfl (by kernel_rfl) (by kernel_rfl) (by kernel_rfl) (fun _ _ _ h => h) (Or.inl ⟨by rfl, ?_⟩) h0 ?_
    rotate_left
    · intro w hSw; (try dsimp only at hSw); go_simp; with_reducible rfl
    try simp only [Act.put, List.setIfInBounds_toArray, List.set_cons_zero, List.set_cons_succ, List.getElem_toArray, List.getElem_cons_succ, List.getElem_cons_zero]
    refine wpAnyH_take (i := 1) (v := ?_) rfl (by kernel_rfl) (by kernel_rfl) (by kernel_rfl) (fun _ _ _ h => h) (Or.inl ⟨by rfl, ?_⟩) h0 ?_
    rotate_left
    · intro w hSw; (try dsimp only at hSw); go_simp; with_reducible rfl
    try simp only [Act.put, List.setIfInBounds_toArray, List.set_cons_zero, List.set_cons_succ, List.getElem_toArray, List.getElem_cons_succ, List.getElem_cons_zero]
    refine wpAnyH_take (i := 2) (v := ?_) rfl (by kernel_rfl) (by kernel_rfl) (by kernel_rfl) (fun _ _ _ h => h) (Or.inl ⟨by rfl, ?_⟩) h0 ?_
    rotate_left
    · intro w hSw; (try dsimp only at hSw); go_simp; with_reducible rfl
    try simp only [Act.put, List.setIfInBounds_toArray, List.set_cons_zero, List.set_cons_succ, List.getElem_toArray, List.getElem_cons_succ, List.getElem_cons_zero]
    refine wpAnyH_take (i := 3) (v := ?_) rfl (by kernel_rfl) (by kernel_rfl) (by kernel_rfl) (fun _ _ _ h => h) (Or.inl ⟨by rfl, ?_⟩) h0 ?_
    rotate_left
    · intro w hSw; (try dsimp only at hSw); go_simp; with_reducible rfl
    try simp only [Act.put, List.setIfInBounds_toArray, List.set_cons_zero, List.set_cons_succ, List.getElem_toArray, List.getElem_cons_succ, List.getElem_cons_zero]
    refine wpAnyH_take (i := 4) (v := ?_) rfl (by kernel_rfl) (by kernel_rfl) (by kernel_rfl) (fun _ _ _ h => h) (Or.inl ⟨by rfl, ?_⟩) h0 ?_
    rotate_left
    · intro w hSw; (try dsimp only at hSw); go_simp; with_reducible rfl
    try simp only [Act.put, List.setIfInBounds_toArray, List.set_cons_zero, List.set_cons_succ, List.getElem_toArray, List.getElem_cons_succ, List.getElem_cons_zero]
    refine wpAnyH_take (i := 5) (v := ?_) rfl (by kernel_rfl) (by kernel_rfl) (by kernel_rfl) (fun _ _ _ h => h) (Or.inl ⟨by rfl, ?_⟩) h0 ?_
    rotate_left
    · intro w hSw; (try dsimp only at hSw); go_simp; with_reducible rfl
    try simp only [Act.put, List.setIfInBounds_toArray, List.set_cons_zero, List.set_cons_succ, List.getElem_toArray, List.getElem_cons_succ, List.getElem_cons_zero]
    refine wpAnyH_take (i := 6) (v := ?_) rfl (by kernel_rfl) (by kernel_rfl) (by kernel_rfl) (fun _ _ _ h => h) (Or.inl ⟨by rfl, ?_⟩) h0 ?_
    rotate_left
    · intro w hSw; (try dsimp only at hSw); go_simp; with_reducible rfl
    try simp only [Act.put, List.setIfInBounds_toArray, List.set_cons_zero, List.set_cons_succ, List.getElem_toArray, List.getElem_cons_succ, List.getElem_cons_zero]
    refine wpAnyH_ready (rs := [7]) (by kernel_rfl) (by simp) ?_
    refine AllReadyH.cons rfl (fun K hK => ?_) AllReadyH.nil
    go_simp
    refine (vkat_to (c := c) (d := d) (kin_ok HKB.out) hkm (HS.out.below (HOV.out.step (On.step HA.out h0))) (HI.out.below (HOV.out.step (On.step HA.out h0)) rfl) (by omega) (by omega)).mono ?_
    rintro e wA ⟨⟨B1, m1, d1, B2, m2, d2, B3, m3, d3, u⟩, rfl, hs2, hb⟩
    refine hK.out _ _ (On.step h0 hb) (fun h1 => ?_)
    clear hK K hb
    try simp only [Act.put, List.setIfInBounds_toArray, List.set_cons_zero, List.set_cons_succ, List.getElem_toArray, List.getElem_cons_succ, List.getElem_cons_zero]
    refine wpAnyH_ready (rs := [8]) (by kernel_rfl) (by simp) ?_
    refine AllReadyH.cons rfl (fun K hK => ?_) AllReadyH.nil
    go_simp
    refine (vksame_to (HKV.out.below (On.step HA.out h1)) hs2).mono ?_
    rintro e wB ⟨rfl, hb⟩
    refine hK.out _ _ (On.step h1 hb) (fun h2 => ?_)
    clear hK K hb
    try simp only [Act.put, List.setIfInBounds_toArray, List.set_cons_zero, List.set_cons_succ, List.getElem_toArray, List.getElem_cons_succ, List.getElem_cons_zero]
    refine wpAnyH_take (i := 9) (v := ?_) rfl (by kernel_rfl) (by kernel_rfl) (by kernel_rfl) (fun _ _ _ h => h) (Or.inl ⟨by rfl, ?_⟩) h2 ?_
    rotate_left
    · intro w hSw; (try dsimp only at hSw); go_simp; with_reducible rfl
    try simp only [Act.put, List.setIfInBounds_toArray, List.set_cons_zero, List.set_cons_succ, List.getElem_toArray, List.getElem_cons_succ, List.getElem_cons_zero]
    refine wpAnyH_take (i := 10) (v := ?_) rfl (by kernel_rfl) (by kernel_rfl) (by kernel_rfl) (fun _ _ _ h => h) (Or.inl ⟨by rfl, ?_⟩) h2 ?_
    rotate_left
    · intro w hSw; (try dsimp only at hSw); go_simp; with_reducible rfl
    try simp only [Act.put, List.setIfInBounds_toArray, List.set_cons_zero, List.set_cons_succ, List.getElem_toArray, List.getElem_cons_succ, List.getElem_cons_zero]
    refine wpAnyH_ready (rs := [11]) (by kernel_rfl) (by simp) ?_
    refine AllReadyH.cons rfl (fun K hK => ?_) AllReadyH.nil
    go_simp
    refine (awake16_any _).mono ?_
    rintro e wC ⟨rfl, hb⟩
    refine hK.out _ _ (On.step h2 hb) (fun h3 => ?_)
    clear hK K hb
    try simp only [Act.put, List.setIfInBounds_toArray, List.set_cons_zero, List.set_cons_succ, List.getElem_toArray, List.getElem_cons_succ, List.getElem_cons_zero]
    refine wpAnyH_take (i := 12) (v := ?_) rfl (by kernel_rfl) (by kernel_rfl) (by kernel_rfl) (fun _ _ _ h => h) (Or.inl ⟨by rfl, ?_⟩) h3 ?_
    rotate_left
    · intro w hSw; (try dsimp only at hSw); go_simp; with_reducible rfl
    try simp only [Act.put, List.setIfInBounds_toArray, List.set_cons_zero, List.set_cons_succ, List.getElem_toArray, List.getElem_cons_succ, List.getElem_cons_zero]
    refine wpAnyH_done (by kernel_rfl) ?_ _
    show wpList _ _ _ _ _ _
    clear x0 x1 x2 x3
    go_wp2_with fail
    go_ret
    exact ⟨rfl, HOV.out.step (On.step HA.out h3)⟩
  · have hh9 := HHK.out
    rw [heldK_out (.inl hb0)] at hh9
    injection hh9 with e1 e2
    subst e1 e2
    by_cases k1 : k < 0
    · have hx9 := HX.out
      rw [kinA_out (.inl k1)] at hx9
      injection hx9 with e1 e2
      subst e1 e2
      have hbx := HXB.out.below HA.out
      have x0 := hbx.2.2 0 _ rfl
      have x1 := hbx.2.2 1 _ rfl
      have x2 := hbx.2.2 2 _ rfl
      have x3 := hbx.2.2 3 _ rfl
      clear hbx
      go_wp2_with fail
      refine (vksame_to (HKV.out.below HA.out) (KnSee.no w10)).mono ?_
      rintro e w12 ⟨rfl, hb⟩
      have HB := Lib.hid (show On V w12 from On.step HA.out hb)
      clear hb x0 x1 x2 x3
      go_wp2_with fail
      refine (awake16_any _).mono ?_
      rintro e w13 ⟨rfl, hb⟩
      have HD := Lib.hid (HOV.out.step (On.step HB.out hb))
      clear hb
      go_wp2_with fail
      go_ret
      exact ⟨rfl, HD.out⟩
    by_cases k2 : (m : Int) < k
    · have hx9 := HX.out
      rw [kinA_out (.inr (by have := HLO.out; omega))] at hx9
      injection hx9 with e1 e2
      subst e1 e2
      have k1' : 0 ≤ k := by omega
      have hbx := HXB.out.below HA.out
      have x0 := hbx.2.2 0 _ rfl
      have x1 := hbx.2.2 1 _ rfl
      have x2 := hbx.2.2 2 _ rfl
      have x3 := hbx.2.2 3 _ rfl
      clear hbx
      go_wp2_with fail
      refine (vksame_to (HKV.out.below HA.out) (KnSee.no w10)).mono ?_
      rintro e w12 ⟨rfl, hb⟩
      have HB := Lib.hid (show On V w12 from On.step HA.out hb)
      clear hb x0 x1 x2 x3
      go_wp2_with fail
      refine (awake16_any _).mono ?_
      rintro e w13 ⟨rfl, hb⟩
      have HD := Lib.hid (HOV.out.step (On.step HB.out hb))
      clear hb
      go_wp2_with fail
      go_ret
      exact ⟨rfl, HD.out⟩
    obtain ⟨k0, rfl⟩ : ∃ k0 : Nat, k = (k0 : Int) := ⟨k.toNat, by omega⟩
    have hkm : k0 ≤ m := by omega
    have k3 : (0 : Int) ≤ (k0 : Int) := by omega
    have k4 : (k0 : Int) ≤ (m : Int) := by omega
    have hx9 := HX.out
    rw [kinA_in HKB.out k3 (by have := HLO.out; omega)] at hx9
    injection hx9 with e1 e2
    subst e1 e2
    clear k1 k2
    have x0 := On.cell ((HXB.out.below HA.out).2.2 0 _ rfl)
    have x1 := On.cell ((HXB.out.below HA.out).2.2 1 _ rfl)
    have x2 := On.cell ((HXB.out.below HA.out).2.2 2 _ rfl)
    have x3 := On.cell ((HXB.out.below HA.out).2.2 3 _ rfl)
    go_wp2_with fail
    refine wp_region_held_tail 13 (S := fun W' => On w10 W') (by kernel_rfl) (by kernel_rfl) rfl (On.refl _).drew (fun h0 => ?_)
    simp only [headOf, List.take_succ_cons, List.take_zero, List.getElem_toArray, List.getElem_cons_succ, List.getElem_cons_zero]
    refine wpAnyH_take (i := 0) (v := ?_) rfl (by kernel_rfl) (by kernel_rfl) (by kernel_rfl) (fun _ _ _ h => h) (Or.inl ⟨by rfl, ?_⟩) h0 ?_
    rotate_left
    · intro w hSw; (try dsimp only at hSw); go_simp; with_reducible rfl
    try simp only [Act.put, List.setIfInBounds_toArray, List.set_cons_zero, List.set_cons_succ, List.getElem_toArray, List.getElem_cons_succ, List.getElem_cons_zero]
    refine wpAnyH_take (i := 1) (v := ?_) rfl (by kernel_rfl) (by kernel_rfl) (by kernel_rfl) (fun _ _ _ h => h) (Or.inl ⟨by rfl, ?_⟩) h0 ?_
    rotate_left
    · intro w hSw; (try dsimp only at hSw); go_simp; with_reducible rfl
    try simp only [Act.put, List.setIfInBounds_toArray, List.set_cons_zero, List.set_cons_succ, List.getElem_toArray, List.getElem_cons_succ, List.getElem_cons_zero]
    refine wpAnyH_take (i := 2) (v := ?_) rfl (by kernel_rfl) (by kernel_rfl) (by kernel_rfl) (fun _ _ _ h => h) (Or.inl ⟨by rfl, ?_⟩) h0 ?_
    rotate_left
    · intro w hSw; (try dsimp only at hSw); go_simp; with_reducible rfl
    try simp only [Act.put, List.setIfInBounds_toArray, List.set_cons_zero, List.set_cons_succ, List.getElem_toArray, List.getElem_cons_succ, List.getElem_cons_zero]
    refine wpAnyH_take (i := 3) (v := ?_) rfl (by kernel_rfl) (by kernel_rfl) (by kernel_rfl) (fun _ _ _ h => h) (Or.inl ⟨by rfl, ?_⟩) h0 ?_
    rotate_left
    · intro w hSw; (try dsimp only at hSw); go_simp; with_reducible rfl
    try simp only [Act.put, List.setIfInBounds_toArray, List.set_cons_zero, List.set_cons_succ, List.getElem_toArray, List.getElem_cons_succ, List.getElem_cons_zero]
    refine wpAnyH_take (i := 4) (v := ?_) rfl (by kernel_rfl) (by kernel_rfl) (by kernel_rfl) (fun _ _ _ h => h) (Or.inl ⟨by rfl, ?_⟩) h0 ?_
    rotate_left
    · intro w hSw; (try dsimp only at hSw); go_simp; with_reducible rfl
    try simp only [Act.put, List.setIfInBounds_toArray, List.set_cons_zero, List.set_cons_succ, List.getElem_toArray, List.getElem_cons_succ, List.getElem_cons_zero]
    refine wpAnyH_take (i := 5) (v := ?_) rfl (by kernel_rfl) (by kernel_rfl) (by kernel_rfl) (fun _ _ _ h => h) (Or.inl ⟨by rfl, ?_⟩) h0 ?_
    rotate_left
    · intro w hSw; (try dsimp only at hSw); go_simp; with_reducible rfl
    try simp only [Act.put, List.setIfInBounds_toArray, List.set_cons_zero, List.set_cons_succ, List.getElem_toArray, List.getElem_cons_succ, List.getElem_cons_zero]
    refine wpAnyH_take (i := 6) (v := ?_) rfl (by kernel_rfl) (by kernel_rfl) (by kernel_rfl) (fun _ _ _ h => h) (Or.inl ⟨by rfl, ?_⟩) h0 ?_
    rotate_left
    · intro w hSw; (try dsimp only at hSw); go_simp; with_reducible rfl
    try simp only [Act.put, List.setIfInBounds_toArray, List.set_cons_zero, List.set_cons_succ, List.getElem_toArray, List.getElem_cons_succ, List.getElem_cons_zero]
    refine wpAnyH_ready (rs := [7]) (by kernel_rfl) (by simp) ?_
    refine AllReadyH.cons rfl (fun K hK => ?_) AllReadyH.nil
    go_simp
    refine (vkat_to (c := c) (d := d) (kin_ok HKB.out) hkm (HS.out.below (HOV.out.step (On.step HA.out h0))) (HI.out.below (HOV.out.step (On.step HA.out h0)) rfl) (by omega) (by omega)).mono ?_
    rintro e wA ⟨⟨B1, m1, d1, B2, m2, d2, B3, m3, d3, u⟩, rfl, hs2, hb⟩
    refine hK.out _ _ (On.step h0 hb) (fun h1 => ?_)
    clear hK K hb
    try simp only [Act.put, List.setIfInBounds_toArray, List.set_cons_zero, List.set_cons_succ, List.getElem_toArray, List.getElem_cons_succ, List.getElem_cons_zero]
    refine wpAnyH_ready (rs := [8]) (by kernel_rfl) (by simp) ?_
    refine AllReadyH.cons rfl (fun K hK => ?_) AllReadyH.nil
    go_simp
    refine (vksame_to (HKV.out.below (On.step HA.out h1)) hs2).mono ?_
    rintro e wB ⟨rfl, hb⟩
    refine hK.out _ _ (On.step h1 hb) (fun h2 => ?_)
    clear hK K hb
    try simp only [Act.put, List.setIfInBounds_toArray, List.set_cons_zero, List.set_cons_succ, List.getElem_toArray, List.getElem_cons_succ, List.getElem_cons_zero]
    refine wpAnyH_take (i := 9) (v := ?_) rfl (by kernel_rfl) (by kernel_rfl) (by kernel_rfl) (fun _ _ _ h => h) (Or.inl ⟨by rfl, ?_⟩) h2 ?_
    rotate_left
    · intro w hSw; (try dsimp only at hSw); go_simp; with_reducible rfl
    try simp only [Act.put, List.setIfInBounds_toArray, List.set_cons_zero, List.set_cons_succ, List.getElem_toArray, List.getElem_cons_succ, List.getElem_cons_zero]
    refine wpAnyH_take (i := 10) (v := ?_) rfl (by kernel_rfl) (by kernel_rfl) (by kernel_rfl) (fun _ _ _ h => h) (Or.inl ⟨by rfl, ?_⟩) h2 ?_
    rotate_left
    · intro w hSw; (try dsimp only at hSw); go_simp; with_reducible rfl
    try simp only [Act.put, List.setIfInBounds_toArray, List.set_cons_zero, List.set_cons_succ, List.getElem_toArray, List.getElem_cons_succ, List.getElem_cons_zero]
    refine wpAnyH_ready (rs := [11]) (by kernel_rfl) (by simp) ?_
    refine AllReadyH.cons rfl (fun K hK => ?_) AllReadyH.nil
    go_simp
    refine (awake16_any _).mono ?_
    rintro e wC ⟨rfl, hb⟩
    refine hK.out _ _ (On.step h2 hb) (fun h3 => ?_)
    clear hK K hb
    try simp only [Act.put, List.setIfInBounds_toArray, List.set_cons_zero, List.set_cons_succ, List.getElem_toArray, List.getElem_cons_succ, List.getElem_cons_zero]
    refine wpAnyH_take (i := 12) (v := ?_) rfl (by kernel_rfl) (by kernel_rfl) (by kernel_rfl) (fun _ _ _ h => h) (Or.inl ⟨by rfl, ?_⟩) h3 ?_
    rotate_left
    · intro w hSw; (try dsimp only at hSw); go_simp; with_reducible rfl
    try simp only [Act.put, List.setIfInBounds_toArray, List.set_cons_zero, List.set_cons_succ, List.getElem_toArray, List.getElem_cons_succ, List.getElem_cons_zero]
    refine wpAnyH_done (by kernel_rfl) ?_ _
    show wpList _ _ _ _ _ _
    clear x0 x1 x2 x3
    go_wp2_with fail
    go_ret
    exact ⟨rfl, HOV.out.step (On.step HA.out h3)⟩
  · have hh9 := HHK.out
    rw [heldK_out (.inr (by have := HLN.out; omega))] at hh9
    injection hh9 with e1 e2
    subst e1 e2
    by_cases k1 : k < 0
    · have hx9 := HX.out
      rw [kinA_out (.inl k1)] at hx9
      injection hx9 with e1 e2
      subst e1 e2
      have hbx := HXB.out.below HA.out
      have x0 := hbx.2.2 0 _ rfl
      have x1 := hbx.2.2 1 _ rfl
      have x2 := hbx.2.2 2 _ rfl
      have x3 := hbx.2.2 3 _ rfl
      clear hbx
      go_wp2_with fail
      refine (vksame_to (HKV.out.below HA.out) (KnSee.no w10)).mono ?_
      rintro e w12 ⟨rfl, hb⟩
      have HB := Lib.hid (show On V w12 from On.step HA.out hb)
      clear hb x0 x1 x2 x3
      go_wp2_with fail
      refine (awake16_any _).mono ?_
      rintro e w13 ⟨rfl, hb⟩
      have HD := Lib.hid (HOV.out.step (On.step HB.out hb))
      clear hb
      go_wp2_with fail
      go_ret
      exact ⟨rfl, HD.out⟩
    by_cases k2 : (m : Int) < k
    · have hx9 := HX.out
      rw [kinA_out (.inr (by have := HLO.out; omega))] at hx9
      injection hx9 with e1 e2
      subst e1 e2
      have k1' : 0 ≤ k := by omega
      have hbx := HXB.out.below HA.out
      have x0 := hbx.2.2 0 _ rfl
      have x1 := hbx.2.2 1 _ rfl
      have x2 := hbx.2.2 2 _ rfl
      have x3 := hbx.2.2 3 _ rfl
      clear hbx
      go_wp2_with fail
      refine (vksame_to (HKV.out.below HA.out) (KnSee.no w10)).mono ?_
      rintro e w12 ⟨rfl, hb⟩
      have HB := Lib.hid (show On V w12 from On.step HA.out hb)
      clear hb x0 x1 x2 x3
      go_wp2_with fail
      refine (awake16_any _).mono ?_
      rintro e w13 ⟨rfl, hb⟩
      have HD := Lib.hid (HOV.out.step (On.step HB.out hb))
      clear hb
      go_wp2_with fail
      go_ret
      exact ⟨rfl, HD.out⟩
    obtain ⟨k0, rfl⟩ : ∃ k0 : Nat, k = (k0 : Int) := ⟨k.toNat, by omega⟩
    have hkm : k0 ≤ m := by omega
    have k3 : (0 : Int) ≤ (k0 : Int) := by omega
    have k4 : (k0 : Int) ≤ (m : Int) := by omega
    have hx9 := HX.out
    rw [kinA_in HKB.out k3 (by have := HLO.out; omega)] at hx9
    injection hx9 with e1 e2
    subst e1 e2
    clear k1 k2
    have x0 := On.cell ((HXB.out.below HA.out).2.2 0 _ rfl)
    have x1 := On.cell ((HXB.out.below HA.out).2.2 1 _ rfl)
    have x2 := On.cell ((HXB.out.below HA.out).2.2 2 _ rfl)
    have x3 := On.cell ((HXB.out.below HA.out).2.2 3 _ rfl)
    go_wp2_with fail
    refine wp_region_held_tail 13 (S := fun W' => On w10 W') (by kernel_rfl) (by kernel_rfl) rfl (On.refl _).drew (fun h0 => ?_)
    simp only [headOf, List.take_succ_cons, List.take_zero, List.getElem_toArray, List.getElem_cons_succ, List.getElem_cons_zero]
    refine wpAnyH_take (i := 0) (v := ?_) rfl (by kernel_rfl) (by kernel_rfl) (by kernel_rfl) (fun _ _ _ h => h) (Or.inl ⟨by rfl, ?_⟩) h0 ?_
    rotate_left
    · intro w hSw; (try dsimp only at hSw); go_simp; with_reducible rfl
    try simp only [Act.put, List.setIfInBounds_toArray, List.set_cons_zero, List.set_cons_succ, List.getElem_toArray, List.getElem_cons_succ, List.getElem_cons_zero]
    refine wpAnyH_take (i := 1) (v := ?_) rfl (by kernel_rfl) (by kernel_rfl) (by kernel_rfl) (fun _ _ _ h => h) (Or.inl ⟨by rfl, ?_⟩) h0 ?_
    rotate_left
    · intro w hSw; (try dsimp only at hSw); go_simp; with_reducible rfl
    try simp only [Act.put, List.setIfInBounds_toArray, List.set_cons_zero, List.set_cons_succ, List.getElem_toArray, List.getElem_cons_succ, List.getElem_cons_zero]
    refine wpAnyH_take (i := 2) (v := ?_) rfl (by kernel_rfl) (by kernel_rfl) (by kernel_rfl) (fun _ _ _ h => h) (Or.inl ⟨by rfl, ?_⟩) h0 ?_
    rotate_left
    · intro w hSw; (try dsimp only at hSw); go_simp; with_reducible rfl
    try simp only [Act.put, List.setIfInBounds_toArray, List.set_cons_zero, List.set_cons_succ, List.getElem_toArray, List.getElem_cons_succ, List.getElem_cons_zero]
    refine wpAnyH_take (i := 3) (v := ?_) rfl (by kernel_rfl) (by kernel_rfl) (by kernel_rfl) (fun _ _ _ h => h) (Or.inl ⟨by rfl, ?_⟩) h0 ?_
    rotate_left
    · intro w hSw; (try dsimp only at hSw); go_simp; with_reducible rfl
    try simp only [Act.put, List.setIfInBounds_toArray, List.set_cons_zero, List.set_cons_succ, List.getElem_toArray, List.getElem_cons_succ, List.getElem_cons_zero]
    refine wpAnyH_take (i := 4) (v := ?_) rfl (by kernel_rfl) (by kernel_rfl) (by kernel_rfl) (fun _ _ _ h => h) (Or.inl ⟨by rfl, ?_⟩) h0 ?_
    rotate_left
    · intro w hSw; (try dsimp only at hSw); go_simp; with_reducible rfl
    try simp only [Act.put, List.setIfInBounds_toArray, List.set_cons_zero, List.set_cons_succ, List.getElem_toArray, List.getElem_cons_succ, List.getElem_cons_zero]
    refine wpAnyH_take (i := 5) (v := ?_) rfl (by kernel_rfl) (by kernel_rfl) (by kernel_rfl) (fun _ _ _ h => h) (Or.inl ⟨by rfl, ?_⟩) h0 ?_
    rotate_left
    · intro w hSw; (try dsimp only at hSw); go_simp; with_reducible rfl
    try simp only [Act.put, List.setIfInBounds_toArray, List.set_cons_zero, List.set_cons_succ, List.getElem_toArray, List.getElem_cons_succ, List.getElem_cons_zero]
    refine wpAnyH_take (i := 6) (v := ?_) rfl (by kernel_rfl) (by kernel_rfl) (by kernel_rfl) (fun _ _ _ h => h) (Or.inl ⟨by rfl, ?_⟩) h0 ?_
    rotate_left
    · intro w hSw; (try dsimp only at hSw); go_simp; with_reducible rfl
    try simp only [Act.put, List.setIfInBounds_toArray, List.set_cons_zero, List.set_cons_succ, List.getElem_toArray, List.getElem_cons_succ, List.getElem_cons_zero]
    refine wpAnyH_ready (rs := [7]) (by kernel_rfl) (by simp) ?_
    refine AllReadyH.cons rfl (fun K hK => ?_) AllReadyH.nil
    go_simp
    refine (vkat_to (c := c) (d := d) (kin_ok HKB.out) hkm (HS.out.below (HOV.out.step (On.step HA.out h0))) (HI.out.below (HOV.out.step (On.step HA.out h0)) rfl) (by omega) (by omega)).mono ?_
    rintro e wA ⟨⟨B1, m1, d1, B2, m2, d2, B3, m3, d3, u⟩, rfl, hs2, hb⟩
    refine hK.out _ _ (On.step h0 hb) (fun h1 => ?_)
    clear hK K hb
    try simp only [Act.put, List.setIfInBounds_toArray, List.set_cons_zero, List.set_cons_succ, List.getElem_toArray, List.getElem_cons_succ, List.getElem_cons_zero]
    refine wpAnyH_ready (rs := [8]) (by kernel_rfl) (by simp) ?_
    refine AllReadyH.cons rfl (fun K hK => ?_) AllReadyH.nil
    go_simp
    refine (vksame_to (HKV.out.below (On.step HA.out h1)) hs2).mono ?_
    rintro e wB ⟨rfl, hb⟩
    refine hK.out _ _ (On.step h1 hb) (fun h2 => ?_)
    clear hK K hb
    try simp only [Act.put, List.setIfInBounds_toArray, List.set_cons_zero, List.set_cons_succ, List.getElem_toArray, List.getElem_cons_succ, List.getElem_cons_zero]
    refine wpAnyH_take (i := 9) (v := ?_) rfl (by kernel_rfl) (by kernel_rfl) (by kernel_rfl) (fun _ _ _ h => h) (Or.inl ⟨by rfl, ?_⟩) h2 ?_
    rotate_left
    · intro w hSw; (try dsimp only at hSw); go_simp; with_reducible rfl
    try simp only [Act.put, List.setIfInBounds_toArray, List.set_cons_zero, List.set_cons_succ, List.getElem_toArray, List.getElem_cons_succ, List.getElem_cons_zero]
    refine wpAnyH_take (i := 10) (v := ?_) rfl (by kernel_rfl) (by kernel_rfl) (by kernel_rfl) (fun _ _ _ h => h) (Or.inl ⟨by rfl, ?_⟩) h2 ?_
    rotate_left
    · intro w hSw; (try dsimp only at hSw); go_simp; with_reducible rfl
    try simp only [Act.put, List.setIfInBounds_toArray, List.set_cons_zero, List.set_cons_succ, List.getElem_toArray, List.getElem_cons_succ, List.getElem_cons_zero]
    refine wpAnyH_ready (rs := [11]) (by kernel_rfl) (by simp) ?_
    refine AllReadyH.cons rfl (fun K hK => ?_) AllReadyH.nil
    go_simp
    refine (awake16_any _).mono ?_
    rintro e wC ⟨rfl, hb⟩
    refine hK.out _ _ (On.step h2 hb) (fun h3 => ?_)
    clear hK K hb
    try simp only [Act.put, List.setIfInBounds_toArray, List.set_cons_zero, List.set_cons_succ, List.getElem_toArray, List.getElem_cons_succ, List.getElem_cons_zero]
    refine wpAnyH_take (i := 12) (v := ?_) rfl (by kernel_rfl) (by kernel_rfl) (by kernel_rfl) (fun _ _ _ h => h) (Or.inl ⟨by rfl, ?_⟩) h3 ?_
    rotate_left
    · intro w hSw; (try dsimp only at hSw); go_simp; with_reducible rfl
    try simp only [Act.put, List.setIfInBounds_toArray, List.set_cons_zero, List.set_cons_succ, List.getElem_toArray, List.getElem_cons_succ, List.getElem_cons_zero]
    refine wpAnyH_done (by kernel_rfl) ?_ _
    show wpList _ _ _ _ _ _
    clear x0 x1 x2 x3
    go_wp2_with fail
    go_ret
    exact ⟨rfl, HOV.out.step (On.step HA.out h3)⟩
end Go.Proofs.Ytamakeogaipdiaa
