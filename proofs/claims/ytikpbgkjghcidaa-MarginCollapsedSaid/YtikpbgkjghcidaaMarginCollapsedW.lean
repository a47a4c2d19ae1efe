import Derived.Test.YtikpbgkjghcidaaMarginStepsW
import Derived.Test.YtikpbgkjghcidaaMarginMath2
import Derived.Test.YtikpbgkjghcidaaAppendAt
import Derived.Test.YtikpbgkjghcidaaTail
/- The walk of the law MarginCollapsed, if package margin says what it is asked. (Written by program: tools/drafts/gencollapsed13.py.) -/
namespace Go.Proofs.Ytikpbgkjghcidaa
open Go.RowKit
set_option linter.unusedVariables false
set_option linter.unusedSimpArgs false
theorem cells_st (w : World) (t : TypeId) (a b c : Int) : Cells (w.alloc (.cells #[.int .i64 a, .int .i64 b, .int .i64 c] t)) (some ⟨w.heap.size, 0, none⟩) 1 3 [.int .i64 a, .int .i64 b, .int .i64 c] :=
  ⟨rfl, by decide, fun _ => ⟨w.heap.size, 0, rfl, by simp, fun j u hu => by
    have := (Box.new w [.int .i64 a, .int .i64 b, .int .i64 c] t).2.2 j u hu
    rw [Nat.zero_add]; exact this⟩⟩
theorem ints_lt {w : World} {A : Option Addr} {n : Nat} {zs : List Int} (h : Ints w A n zs) (hn : 0 < n) : ∀ q, A = some q → q.block < w.heap.size := by
  intro q e
  obtain ⟨b, off, hA, hb, _⟩ := h.2.2 hn
  rw [e] at hA
  injection hA with hA
  rw [hA]
  exact hb
theorem ints_grown {w w' : World} {A : Option Addr} {n : Nat} {zs : List Int} {row : Option Nat} (h : Ints w A n zs) (hg : w.grownBy w' row) (hr : ∀ q, A = some q → ∀ r, row = some r → r ≠ q.block) : Ints w' A n zs := by
  refine ⟨h.1, h.2.1, fun hp => ?_⟩
  obtain ⟨b, off, hA, hb, hc⟩ := h.2.2 hp
  exact ⟨b, off, hA, Nat.lt_of_lt_of_le hb hg.size, fun k hk => hg.cell (hc k hk) (fun e => hr _ hA _ e.symm rfl)⟩
theorem ints_set {w : World} {A : Option Addr} {n : Nat} {zs : List Int} (h : Ints w A n zs) {m : Nat} (hm : ∀ q, A = some q → q.block ≠ m) (j : Nat) (v : Value) : Ints (w.setCell ⟨m, j, none⟩ v) A n zs := by
  refine ⟨h.1, h.2.1, fun hp => ?_⟩
  obtain ⟨b, off, hA, hb, hc⟩ := h.2.2 hp
  have hne : b ≠ m := hm _ hA
  refine ⟨b, off, hA, by simpa using hb, fun k hk => ?_⟩
  rw [← hc k hk]
  simp only [World.cell?]
  rw [Below.heap_setCell _ _ _ _ (fun e => hne (by simpa using e))]
theorem owns_off13 {w : World} {base : Nat} {e : TypeId} {size : Nat} {v : Value} {n : Nat} {xs : List Value} (h : w.ownsRow base e size v n xs) {m : Nat} (hm : ∀ r, v.ownBlock = some r → r ≠ m) (j : Nat) (u : Value) : (w.setCell ⟨m, j, none⟩ u).ownsRow base e size v n xs := by
  refine ⟨h.1, ?_⟩
  rcases h.2 with h2 | ⟨g, cap, cur, h1, h2, h3, h4⟩
  · exact .inl h2
  · exact .inr ⟨g, cap, cur, h1, h2, (Below.heap_setCell _ _ _ _ (fun e => hm g (by rw [h1]; rfl) (by simpa using e))).trans h3, h4⟩
set_option maxHeartbeats 16000000 in
set_option maxRecDepth 100000 in
theorem margincollapsed_all (H : MarginSays) {A : Option Addr} {n c : Nat} {zs : List Int} {y m high : Int} {w : World} (hz : Ints w A n zs) :
    Calls Try.prog 4 #[.agg #[.int .i64 y, .int .i64 m], .slice A n c, .int .i64 high] w fun e w' => e = .returned (.bool true) ∧ Below w.heap.size w w' := by
  have HH := Lib.hid H
  have HA := Lib.hid hz
  have HL := Lib.hid hz.1
  have hnb := hz.2.1
  obtain ⟨i0, hi0, hz0, hz1, hz2⟩ := info_parts st_info
  obtain ⟨W, hW⟩ : ∃ W, w.alloc (.cells #[.int .i64 y, .int .i64 m] 23) = W := ⟨_, rfl⟩
  have HB := Lib.hid (show On w W by rw [← hW]; exact (On.refl w).alloc _)
  have HX := Lib.hid (show Box W w.heap.size [.int .i64 y, .int .i64 m] by rw [← hW]; exact Box.new2 _ _ _ _)
  have HWW := Lib.hid hW
  clear H hz hW
  by_cases hbig : 200 < n
  · have hbig2 : (200 : Int) < (n : Int) := by omega
    go_enter Try.func4, Try.ntmps4
    go_wp2_with fail
    refine (mawake_any HH.out _).mono ?_
    rintro e w9 ⟨rfl, hb9⟩
    have HB9 := Lib.hid (below_then (show Below w.heap.size w _ by go_grown) hb9)
    clear hb9
    go_wp2_with fail
    go_ret
    exact ⟨rfl, HB9.out⟩
  have hbig2 : (n : Int) ≤ (200 : Int) := by omega
  obtain ⟨u, hu⟩ : ∃ u, allNearB [y, m, high] = u := ⟨_, rfl⟩
  have HU := Lib.hid hu
  obtain ⟨u2, hu2⟩ : ∃ u2, allNearB zs = u2 := ⟨_, rfl⟩
  have HU2 := Lib.hid hu2
  clear hu hu2
  obtain ⟨k0, k1, k2, k3, k4⟩ := HX.out.of2
  go_enter Try.func4, Try.ntmps4
  clear k0 k1 k2 k3 k4
  go_wp2_with fail
  refine (rnear13_to HU.out (Ints.new3' _ _ _ _ _ _ (by simp))).mono ?_
  rintro e w1 ⟨rfl, rfl⟩
  rw [HWW.out]
  obtain ⟨k0, k1, k2, k3, k4⟩ := (HX.out.alloc (.cells #[.int .i64 y, .int .i64 m, .int .i64 high] 3)).of2
  have HB := Lib.hid (HB.out.alloc (.cells #[.int .i64 y, .int .i64 m, .int .i64 high] 3))
  have HX := Lib.hid (HX.out.alloc (.cells #[.int .i64 y, .int .i64 m, .int .i64 high] 3))
  cases u with
  | false =>
    go_wp2_with fail
    refine (mawake_any HH.out _).mono ?_
    rintro e w9 ⟨rfl, hb9⟩
    have HB9 := Lib.hid (below_then HB.out hb9)
    clear hb9
    go_wp2_with fail
    go_ret
    exact ⟨rfl, HB9.out⟩
  | true =>
    have huu := allNearB_iff.1 HU.out
    have HY := Lib.hid (huu y (by simp))
    have HM := Lib.hid (huu m (by simp))
    have HG := Lib.hid (huu high (by simp))
    clear huu
    go_wp2_with fail
    refine (rnear13_to HU2.out (ints_on HA.out HB.out)).mono ?_
    rintro e w1 ⟨rfl, rfl⟩
    cases u2 with
    | false =>
      go_wp2_with fail
      refine (mawake_any HH.out _).mono ?_
      rintro e w9 ⟨rfl, hb9⟩
      have HB9 := Lib.hid (below_then HB.out hb9)
      clear hb9
      go_wp2_with fail
      go_ret
      exact ⟨rfl, HB9.out⟩
    | true =>
      have HN := Lib.hid (allNearB_iff.1 HU2.out)
      go_wp2_with fail
      obtain ⟨V, hV⟩ : ∃ V, W.alloc (.cells #[.int .i64 y, .int .i64 m, .int .i64 high] 3) = V := ⟨_, rfl⟩
      rw [hV] at HB HX ⊢
      clear hV k0 k1 k2 k3 k4
      go_loopw [7, 8, 9, 10] (fun l1 l2 mo i wr => ∃ (k c1 c2 : Nat) (A1 A2 : Option Addr) (p1 p2 : List Stp) (x : Int), l1 = .slice A1 k c1 ∧ l2 = .slice A2 k c2 ∧ mo = .int .i64 x ∧ i = .int .i64 (k : Int) ∧ k ≤ n ∧ Hid (Plain p1 (zs.take k)) ∧ Hid (Plain p2 (zs.reverse.take k)) ∧ Hid ((zs.take k).foldl raiseI m = x) ∧ Hid (wr.ownsRow V.heap.size 33 3 (.slice A1 k c1) k (p1.flatMap encSt)) ∧ Hid (wr.ownsRow V.heap.size 33 3 (.slice A2 k c2) k (p2.flatMap encSt)) ∧ Hid (Apart A1 k c1 A2 k c2) ∧ Hid (On V wr)) (fun _ _ _ i _ => n - (intOf i).toNat)
      case atStart => exact ⟨0, 0, 0, none, none, [], [], m, rfl, rfl, rfl, rfl, Nat.zero_le _, Lib.hid Plain.nil, Lib.hid Plain.nil, Lib.hid rfl, Lib.hid (owns_nil _ _ _ _), Lib.hid (owns_nil _ _ _ _), Lib.hid Apart.nil, Lib.hid (On.refl V)⟩
      case round =>
        obtain ⟨k, c1, c2, A1, A2, p1, p2, x, rfl, rfl, rfl, rfl, hkn, HP1, HP2, HMO, HO1, HO2, HAP, HV⟩ := hrel
        by_cases hlt : k < n
        · have hlt2 : (k : Int) < (n : Int) := by omega
          have hin := ints_on HA.out HB.out
          obtain ⟨j, hj⟩ : ∃ j : Nat, n - 1 - k = j := ⟨_, rfl⟩
          have hjn : j < n := by omega
          obtain ⟨b, off, z, rfl, hzk, hc⟩ := ints_get hin hlt
          obtain ⟨b', off', z2, hbb, hzk2, hc2⟩ := ints_get hin hjn
          injection hbb with hbb
          injection hbb with hb1 hb2 _
          subst hb1 hb2
          have hrev : zs.reverse[k]? = some z2 := by
            rw [List.getElem?_reverse (by have := HL.out; omega), show zs.length - 1 - k = j from by have := HL.out; omega]
            exact hzk2
          have HP1b := Lib.hid (show Plain (p1 ++ [⟨1 + (k : Int) % 2, z, 0⟩]) (zs.take (k + 1)) by rw [take_one hzk]; exact HP1.out.snoc (by omega))
          have HP2b := Lib.hid (show Plain (p2 ++ [⟨2 - (k : Int) % 2, z2, 0⟩]) (zs.reverse.take (k + 1)) by rw [take_one hrev]; exact HP2.out.snoc (by omega))
          have HMO2 := Lib.hid (show (zs.take (k + 1)).foldl raiseI m = max x z by rw [foldl_one raiseI m hzk, HMO.out, raiseI_max])
          have KC1 := Lib.hid (On.cell hc)
          have KC2 := Lib.hid (On.cell hc2)
          have HJ := Lib.hid (show (n : Int) - 1 - (k : Int) = (j : Int) by omega)
          clear hzk hzk2 hrev hin hc hc2 hj
          have hc := KC1.out wr HV.out
          go_wp2_with ((with_reducible refine stop_dst 53 ?_ ?_); exact rfl)
          refine Stop.intro ?_
          have hVs := HV.out.size
          have hba : Below wr.heap.size wr (wr.alloc (.cells #[.int .i64 (1 + (k : Int) % 2), .int .i64 z, .int .i64 0] 33)) := (Below.refl _ _).alloc (Nat.le_refl _) _
          have hOA := owns_below HO1.out hba
          have hOB := owns_below HO2.out hba
          refine wpList_append_cells_at rfl (.tmp 43) (.tmp 52) _ rfl V.heap.size 33 i0 (.agg #[.int .i64 0, .int .i64 0, .int .i64 0]) 3 24 Try.underlying24 hi0 hz0 hz1 hz2 rfl (by decide) (.slice A1 k c1) k _ rfl hOA _ 1 1 _ (by decide) rfl (cells_st wr 33 _ _ _) (encSt_one ⟨_, _, _⟩) (by unfold maxLen; omega) (by omega) (by simp; omega) ?_
          intro A3 c3 w2 hown2 hg2 h5
          have HO1 := Lib.hid (show w2.ownsRow V.heap.size 33 3 (.slice A3 (k + 1) c3) (k + 1) ((p1 ++ ([⟨1 + (k : Int) % 2, z, 0⟩] : List Stp)).flatMap encSt) by rw [List.flatMap_append]; exact hown2)
          have HO2 := Lib.hid (owns_other HAP.out hOB hg2)
          have HAP := Lib.hid (HAP.out.left hOB h5)
          have HV := Lib.hid (show On V w2 from (HV.out.alloc _).grown hg2 (by simp; omega) (fun r e => owns_block hOA r e))
          clear hVs hba hOA hOB hown2 hg2 h5 hc
          have hc := KC1.out w2 HV.out
          have hc2 := KC2.out w2 HV.out
          have hix := HJ.out
          go_wp2_with ((with_reducible refine stop_dst 68 ?_ ?_); exact rfl)
          refine Stop.intro ?_
          clear hix
          have hVs := HV.out.size
          have hba : Below w2.heap.size w2 (w2.alloc (.cells #[.int .i64 (2 - (k : Int) % 2), .int .i64 z2, .int .i64 0] 33)) := (Below.refl _ _).alloc (Nat.le_refl _) _
          have hOA := owns_below HO2.out hba
          have hOB := owns_below HO1.out hba
          refine wpList_append_cells_at rfl (.tmp 54) (.tmp 67) _ rfl V.heap.size 33 i0 (.agg #[.int .i64 0, .int .i64 0, .int .i64 0]) 3 24 Try.underlying24 hi0 hz0 hz1 hz2 rfl (by decide) (.slice A2 k c2) k _ rfl hOA _ 1 1 _ (by decide) rfl (cells_st w2 33 _ _ _) (encSt_one ⟨_, _, _⟩) (by unfold maxLen; omega) (by omega) (by simp; omega) ?_
          intro A4 c4 w4 hown2 hg2 h5
          have HO2 := Lib.hid (show w4.ownsRow V.heap.size 33 3 (.slice A4 (k + 1) c4) (k + 1) ((p2 ++ ([⟨2 - (k : Int) % 2, z2, 0⟩] : List Stp)).flatMap encSt) by rw [List.flatMap_append]; exact hown2)
          have HO1 := Lib.hid (owns_other HAP.out.symm hOB hg2)
          have HAP := Lib.hid (HAP.out.symm.left hOB h5).symm
          have HV := Lib.hid (show On V w4 from (HV.out.alloc _).grown hg2 (by simp; omega) (fun r e => owns_block hOA r e))
          clear hVs hba hOA hOB hown2 hg2 h5 hc hc2
          have hc := KC1.out w4 HV.out
          go_wp2_with fail
          go_roundw
          case rel => exact ⟨k + 1, c3, c4, A3, A4, _, _, _, rfl, rfl, rfl, by go_num, by omega, HP1b, HP2b, HMO2, HO1, HO2, HAP, HV⟩
          case measure => simp [intOf] <;> omega
        · have hge : (n : Int) ≤ (k : Int) := by omega
          obtain rfl : k = n := by omega
          clear hlt
          have HQ1 := Lib.hid (show Plain p1 zs from by have := HP1.out; rwa [List.take_of_length_le (by have := HL.out; omega)] at this)
          have HQ2 := Lib.hid (show Plain p2 zs.reverse from by have := HP2.out; rwa [List.take_of_length_le (by have := HL.out; simp; omega)] at this)
          have HXM := Lib.hid (show zs.foldl raiseI m = x from by have := HMO.out; rwa [List.take_of_length_le (by have := HL.out; omega)] at this)
          have E1 := Lib.hid (show penL (y, m) (p1 ++ [⟨4, high, 0⟩]) = (y + x + high, 0) by rw [(HQ1.out.pen y m high).1, HXM.out])
          have E2 := Lib.hid (show placesL (y, m) (p1 ++ [⟨4, high, 0⟩]) = [y + x] by rw [(HQ1.out.pen y m high).2, HXM.out])
          have E3 := Lib.hid (show penL (y, m) (p2 ++ [⟨4, high, 0⟩]) = (y + x + high, 0) by rw [(HQ2.out.pen y m high).1, fold_raise_reverse, HXM.out])
          have E4 := Lib.hid (show placesL (y, m) (p2 ++ [⟨4, high, 0⟩]) = [y + x] by rw [(HQ2.out.pen y m high).2, fold_raise_reverse, HXM.out])
          have N1 := Lib.hid (HQ1.out.near HN.out HG.out)
          have N2 := Lib.hid (HQ2.out.near (fun z hz => HN.out z (List.mem_reverse.1 hz)) HG.out)
          have hxn := fold_raise_near zs m HM.out HN.out
          rw [HXM.out] at hxn
          have hw1 : IntKind.i64.wrap (y + x) = y + x := by
            have h1 := HY.out
            unfold NearI farB at h1 hxn
            exact wrap_far (by omega)
          have hw2 : IntKind.i64.wrap (y + x + high) = y + x + high := by
            have h1 := HY.out
            have h2 := HG.out
            unfold NearI farB at h1 h2 hxn
            exact wrap_far (by omega)
          have hk2 : k ≤ 200 := by omega
          clear hxn
          obtain ⟨j0, j1⟩ := On.of2 HX.out
          go_wp2_with fail
          obtain ⟨w0, hw0⟩ : ∃ w0, wr.alloc (.cells #[.int .i64 4, .int .i64 high, .int .i64 0] 33) = w0 := ⟨_, rfl⟩
          have hb2 : Below wr.heap.size wr w0 := by rw [← hw0]; exact (Below.refl _ _).alloc (Nat.le_refl _) _
          have h0 : On V w0 ∧ Box w0 wr.heap.size [.int .i64 4, .int .i64 high, .int .i64 0] := ⟨below_then HV.out hb2, by rw [← hw0]; exact Box.new wr [.int .i64 4, .int .i64 high, .int .i64 0] _⟩
          have HLT1 := Lib.hid (owns_block_lt HO1.out)
          have HLT2 := Lib.hid (owns_block_lt HO2.out)
          have HVB := Lib.hid (show V.heap.size ≤ wr.heap.size from HV.out.size)
          have HOl := Lib.hid (owns_below HO1.out hb2)
          have HOo := Lib.hid (owns_below HO2.out hb2)
          rw [hw0]
          clear hw0 hb2 HO1 HO2 HV
          generalize wr.heap.size = BP at h0 HLT1 HLT2 HVB ⊢
          go_wp2_with fail
          refine Go.wp_region_held_drew (S := fun W' => On V W' ∧ Box W' BP [.int .i64 4, .int .i64 high, .int .i64 0]) (by kernel_rfl) ⟨h0.1.drew, h0.2.drew⟩ (fun h1 => ?_)
          show wpAnyH _ _ _ _ _ 12 (Array.replicate 12 false) _ _
          have hbz : Below w0.heap.size w0 w0.drew := (Below.refl _ _).drew
          have HOl := Lib.hid (owns_below HOl.out hbz)
          have HOo := Lib.hid (owns_below HOo.out hbz)
          clear hbz
          generalize w0.drew = w1 at h1 HOl HOo ⊢
          refine wpAnyH_take (i := 0) (v := ?_) rfl (by kernel_rfl) (by kernel_rfl) (by kernel_rfl) (fun _ _ _ h => h) (Or.inl ⟨by rfl, ?_⟩) h1 ?_
          rotate_left
          · intro w hSw; obtain ⟨hSw, hSp⟩ := hSw; obtain ⟨⟨g0, g1, g2⟩, _⟩ := hSp.of3; go_simp; with_reducible rfl
          try simp only [Act.put, List.getElem_toArray, List.getElem_cons_succ, List.getElem_cons_zero, List.setIfInBounds_toArray, List.set_cons_zero, List.set_cons_succ]
          refine wpAnyH_take (i := 1) (v := ?_) rfl (by kernel_rfl) (by kernel_rfl) (by kernel_rfl) (fun _ _ _ h => h) (Or.inl ⟨by rfl, ?_⟩) h1 ?_
          rotate_left
          · intro w hSw; obtain ⟨hSw, hSp⟩ := hSw; obtain ⟨⟨g0, g1, g2⟩, _⟩ := hSp.of3; go_simp; with_reducible rfl
          try simp only [Act.put, List.getElem_toArray, List.getElem_cons_succ, List.getElem_cons_zero, List.setIfInBounds_toArray, List.set_cons_zero, List.set_cons_succ]
          refine wpAnyH_take (i := 2) (v := ?_) rfl (by kernel_rfl) (by kernel_rfl) (by kernel_rfl) (fun _ _ _ h => h) (Or.inl ⟨by rfl, ?_⟩) h1 ?_
          rotate_left
          · intro w hSw; obtain ⟨hSw, hSp⟩ := hSw; obtain ⟨⟨g0, g1, g2⟩, _⟩ := hSp.of3; go_simp; with_reducible rfl
          try simp only [Act.put, List.getElem_toArray, List.getElem_cons_succ, List.getElem_cons_zero, List.setIfInBounds_toArray, List.set_cons_zero, List.set_cons_succ]
          refine wpAnyH_ready (rs := [3, 9]) (by kernel_rfl) (by simp) ?_
          refine AllReadyH.cons rfl (fun K hK => ?_) (AllReadyH.cons rfl (fun K hK => ?_) AllReadyH.nil)
          · go_simp
            refine hK.out _ _ ⟨On.alloc h1.1 _, h1.2.alloc _⟩ (fun h2 => ?_)
            clear hK K
            try simp only [Act.put, List.getElem_toArray, List.getElem_cons_succ, List.getElem_cons_zero, List.setIfInBounds_toArray, List.set_cons_zero, List.set_cons_succ]
            have hbz : Below w1.heap.size w1 (w1.alloc (.cells #[.int .i64 4, .int .i64 high, .int .i64 0] 33)) := (Below.refl _ _).alloc (Nat.le_refl _) _
            have HCS := Lib.hid (cells_st w1 33 4 high 0)
            have HOl := Lib.hid (owns_below HOl.out hbz)
            have HOo := Lib.hid (owns_below HOo.out hbz)
            clear hbz
            generalize w1.heap.size = BS at HCS ⊢
            generalize w1.alloc (.cells #[.int .i64 4, .int .i64 high, .int .i64 0] 33) = w2 at h2 HOl HOo HCS ⊢
            refine wpAnyH_ready (rs := [4, 9]) (by kernel_rfl) (by simp) ?_
            refine AllReadyH.cons rfl (fun K hK => ?_) (AllReadyH.cons rfl (fun K hK => ?_) AllReadyH.nil)
            · refine step_append_cells _ rfl (.tmp 79) (.tmp 81) _ rfl V.heap.size 33 i0 (.agg #[.int .i64 0, .int .i64 0, .int .i64 0]) 3 24 Try.underlying24 hi0 hz0 hz1 hz2 rfl (by decide) (.slice A1 k c1) k _ rfl HOl.out _ 1 1 _ rfl HCS.out (encSt_one ⟨_, _, _⟩) (by unfold maxLen; omega) (by omega) (Below.size h2.1) ?_
              intro A5 c5 w3 hown5 hg5
              refine hK.out _ _ ⟨Below.grown h2.1 hg5 (Below.size h2.1) (fun r e => owns_block HOl.out r e), h2.2.grown hg5 (fun r e => Nat.ne_of_lt (HLT1.out r e))⟩ (fun h3 => ?_)
              clear hK K
              try simp only [Act.put, List.getElem_toArray, List.getElem_cons_succ, List.getElem_cons_zero, List.setIfInBounds_toArray, List.set_cons_zero, List.set_cons_succ]
              have HR5 := Lib.hid (ownsRow_rows (enc := encSt) (zs := p1 ++ [⟨4, high, 0⟩]) encSt_len (by decide) (by rw [List.flatMap_append]; exact hown5))
              have HOo := Lib.hid (owns_other HAP.out HOo.out hg5)
              clear hown5 hg5
              refine wpAnyH_ready (rs := [5, 9]) (by kernel_rfl) (by simp) ?_
              refine AllReadyH.cons rfl (fun K hK => ?_) (AllReadyH.cons rfl (fun K hK => ?_) AllReadyH.nil)
              · go_simp
                refine (HH.out.run E1.out E2.out HY.out HM.out N1.out (by omega) HR5.out).mono ?_
                rintro e w4 ⟨A6a, n6, c6a, rfl, hn6, hI6, hb6, hf6⟩
                obtain rfl : n6 = 1 := hn6
                refine hK.out _ _ ⟨On.step h3.1 hb6, h3.2.below hb6⟩ (fun h4 => ?_)
                clear hK K
                try simp only [Act.put, List.getElem_toArray, List.getElem_cons_succ, List.getElem_cons_zero, List.setIfInBounds_toArray, List.set_cons_zero, List.set_cons_succ]
                have HF3 := Lib.hid (show ∀ q, A6a = some q → BP < q.block from fun q e => Nat.lt_of_lt_of_le h3.2.lt (hf6 q e))
                have HOo := Lib.hid (owns_below HOo.out hb6)
                have HI5 := Lib.hid hI6
                clear hI6 hb6 hf6
                refine wpAnyH_take (i := 6) (v := ?_) rfl (by kernel_rfl) (by kernel_rfl) (by kernel_rfl) (fun _ _ _ h => h) (Or.inl ⟨by rfl, ?_⟩) h4 ?_
                rotate_left
                · intro w hSw; obtain ⟨hSw, hSp⟩ := hSw; obtain ⟨⟨g0, g1, g2⟩, _⟩ := hSp.of3; go_simp; with_reducible rfl
                try simp only [Act.put, List.getElem_toArray, List.getElem_cons_succ, List.getElem_cons_zero, List.setIfInBounds_toArray, List.set_cons_zero, List.set_cons_succ]
                refine wpAnyH_take (i := 7) (v := ?_) rfl (by kernel_rfl) (by kernel_rfl) (by kernel_rfl) (fun _ _ _ h => h) (Or.inl ⟨by rfl, ?_⟩) h4 ?_
                rotate_left
                · intro w hSw; obtain ⟨hSw, hSp⟩ := hSw; obtain ⟨⟨g0, g1, g2⟩, _⟩ := hSp.of3; go_simp; with_reducible rfl
                try simp only [Act.put, List.getElem_toArray, List.getElem_cons_succ, List.getElem_cons_zero, List.setIfInBounds_toArray, List.set_cons_zero, List.set_cons_succ]
                refine wpAnyH_take (i := 8) (v := ?_) rfl (by kernel_rfl) (by kernel_rfl) (by kernel_rfl) (fun _ _ _ h => h) (Or.inl ⟨by rfl, ?_⟩) h4 ?_
                rotate_left
                · intro w hSw; obtain ⟨hSw, hSp⟩ := hSw; obtain ⟨⟨g0, g1, g2⟩, _⟩ := hSp.of3; go_simp; with_reducible rfl
                try simp only [Act.put, List.getElem_toArray, List.getElem_cons_succ, List.getElem_cons_zero, List.setIfInBounds_toArray, List.set_cons_zero, List.set_cons_succ]
                refine wpAnyH_ready (rs := [9]) (by kernel_rfl) (by simp) ?_
                refine AllReadyH.cons rfl (fun K hK => ?_) AllReadyH.nil
                go_simp
                refine hK.out _ _ ⟨On.alloc h4.1 _, h4.2.alloc _⟩ (fun h5 => ?_)
                clear hK K
                try simp only [Act.put, List.getElem_toArray, List.getElem_cons_succ, List.getElem_cons_zero, List.setIfInBounds_toArray, List.set_cons_zero, List.set_cons_succ]
                have hbz : Below w4.heap.size w4 (w4.alloc (.cells #[.int .i64 0, .int .i64 0] 23)) := (Below.refl _ _).alloc (Nat.le_refl _) _
                have HPB := Lib.hid (Box.new2 w4 (.int .i64 0) (.int .i64 0) 23)
                have HPL := Lib.hid (show BP < w4.heap.size from h4.2.lt)
                have HNI := Lib.hid (show ∀ q, A6a = some q → q.block ≠ w4.heap.size from fun q e => Nat.ne_of_lt (ints_lt HI5.out (by decide) q e))
                have HOo := Lib.hid (owns_below HOo.out hbz)
                have HI5 := Lib.hid (ints_on HI5.out hbz)
                clear hbz
                generalize w4.heap.size = BBa at HPB HPL HNI ⊢
                generalize w4.alloc (.cells #[.int .i64 0, .int .i64 0] 23) = w5 at h5 HOo HI5 HPB ⊢
                refine wpAnyH_ready (rs := [10]) (by kernel_rfl) (by simp) ?_
                refine AllReadyH.cons rfl (fun K hK => ?_) AllReadyH.nil
                obtain ⟨d0, d1, d2, d3, d4⟩ := HPB.out.of2
                go_simp
                refine hK.out _ _ ⟨On.set (On.set h5.1 (by have := HPL.out; have := HVB.out; omega) _) (by have := HPL.out; have := HVB.out; omega) _, (h5.2.set_other (m := BBa) (by have := HPL.out; omega) 0 _).set_other (m := BBa) (by have := HPL.out; omega) 1 _⟩ (fun h6 => ?_)
                clear hK K d0 d1 d2 d3 d4
                try simp only [Act.put, List.getElem_toArray, List.getElem_cons_succ, List.getElem_cons_zero, List.setIfInBounds_toArray, List.set_cons_zero, List.set_cons_succ]
                have HPB := Lib.hid (show Box ((w5.setCell ⟨BBa, 0, none⟩ (.int .i64 (y + x + high))).setCell ⟨BBa, 1, none⟩ (.int .i64 0)) BBa [.int .i64 (y + x + high), .int .i64 0] from (HPB.out.set 0 (.int .i64 (y + x + high)) (by simp)).set 1 (.int .i64 0) (by simp))
                have HI5 := Lib.hid (ints_set (ints_set HI5.out HNI.out 0 (.int .i64 (y + x + high))) HNI.out 1 (.int .i64 0))
                have HOo := Lib.hid (owns_off13 (owns_off13 HOo.out (m := BBa) (fun r e => by have := HLT2.out r e; have := HPL.out; omega) 0 (.int .i64 (y + x + high))) (m := BBa) (fun r e => by have := HLT2.out r e; have := HPL.out; omega) 1 (.int .i64 0))
                generalize (w5.setCell ⟨BBa, 0, none⟩ (.int .i64 (y + x + high))).setCell ⟨BBa, 1, none⟩ (.int .i64 0) = w6 at h6 HOo HI5 HPB ⊢
                refine wpAnyH_take (i := 11) (v := ?_) rfl (by kernel_rfl) (by kernel_rfl) (by kernel_rfl) (fun _ _ _ h => h) (Or.inl ⟨by rfl, ?_⟩) h6 ?_
                rotate_left
                · intro w hSw; obtain ⟨hSw, hSp⟩ := hSw; obtain ⟨⟨g0, g1, g2⟩, _⟩ := hSp.of3; go_simp; with_reducible rfl
                try simp only [Act.put, List.getElem_toArray, List.getElem_cons_succ, List.getElem_cons_zero, List.setIfInBounds_toArray, List.set_cons_zero, List.set_cons_succ]
                refine wpAnyH_done (by kernel_rfl) ?_ _
                have HE3 := Lib.hid HPB.out
                have HI3 := Lib.hid HI5.out
                have HOl := Lib.hid HOo.out
                have HPLa := Lib.hid HPL.out
                clear HPB HI5 HOo HPL HNI
                go_wp2_with fail
                refine Go.wp_region_held_drew (S := fun W' => On V W' ∧ Box W' BP [.int .i64 4, .int .i64 high, .int .i64 0]) (by kernel_rfl) ⟨h6.1.drew, h6.2.drew⟩ (fun h7 => ?_)
                show wpAnyH _ _ _ _ _ 12 (Array.replicate 12 false) _ _
                have hbz : Below w6.heap.size w6 w6.drew := (Below.refl _ _).drew
                have HOl := Lib.hid (owns_below HOl.out hbz)
                have HI3 := Lib.hid (ints_on HI3.out hbz)
                have HE3 := Lib.hid (HE3.out.below hbz)
                clear hbz
                generalize w6.drew = w7 at h7 HOl HI3 HE3 ⊢
                refine wpAnyH_take (i := 0) (v := ?_) rfl (by kernel_rfl) (by kernel_rfl) (by kernel_rfl) (fun _ _ _ h => h) (Or.inl ⟨by rfl, ?_⟩) h7 ?_
                rotate_left
                · intro w hSw; obtain ⟨hSw, hSp⟩ := hSw; obtain ⟨⟨g0, g1, g2⟩, _⟩ := hSp.of3; go_simp; with_reducible rfl
                try simp only [Act.put, List.getElem_toArray, List.getElem_cons_succ, List.getElem_cons_zero, List.setIfInBounds_toArray, List.set_cons_zero, List.set_cons_succ]
                refine wpAnyH_take (i := 1) (v := ?_) rfl (by kernel_rfl) (by kernel_rfl) (by kernel_rfl) (fun _ _ _ h => h) (Or.inl ⟨by rfl, ?_⟩) h7 ?_
                rotate_left
                · intro w hSw; obtain ⟨hSw, hSp⟩ := hSw; obtain ⟨⟨g0, g1, g2⟩, _⟩ := hSp.of3; go_simp; with_reducible rfl
                try simp only [Act.put, List.getElem_toArray, List.getElem_cons_succ, List.getElem_cons_zero, List.setIfInBounds_toArray, List.set_cons_zero, List.set_cons_succ]
                refine wpAnyH_take (i := 2) (v := ?_) rfl (by kernel_rfl) (by kernel_rfl) (by kernel_rfl) (fun _ _ _ h => h) (Or.inl ⟨by rfl, ?_⟩) h7 ?_
                rotate_left
                · intro w hSw; obtain ⟨hSw, hSp⟩ := hSw; obtain ⟨⟨g0, g1, g2⟩, _⟩ := hSp.of3; go_simp; with_reducible rfl
                try simp only [Act.put, List.getElem_toArray, List.getElem_cons_succ, List.getElem_cons_zero, List.setIfInBounds_toArray, List.set_cons_zero, List.set_cons_succ]
                refine wpAnyH_ready (rs := [3, 9]) (by kernel_rfl) (by simp) ?_
                refine AllReadyH.cons rfl (fun K hK => ?_) (AllReadyH.cons rfl (fun K hK => ?_) AllReadyH.nil)
                · go_simp
                  refine hK.out _ _ ⟨On.alloc h7.1 _, h7.2.alloc _⟩ (fun h8 => ?_)
                  clear hK K
                  try simp only [Act.put, List.getElem_toArray, List.getElem_cons_succ, List.getElem_cons_zero, List.setIfInBounds_toArray, List.set_cons_zero, List.set_cons_succ]
                  have hbz : Below w7.heap.size w7 (w7.alloc (.cells #[.int .i64 4, .int .i64 high, .int .i64 0] 33)) := (Below.refl _ _).alloc (Nat.le_refl _) _
                  have HCS := Lib.hid (cells_st w7 33 4 high 0)
                  have HOl := Lib.hid (owns_below HOl.out hbz)
                  have HI3 := Lib.hid (ints_on HI3.out hbz)
                  have HE3 := Lib.hid (HE3.out.below hbz)
                  clear hbz
                  generalize w7.heap.size = BS at HCS ⊢
                  generalize w7.alloc (.cells #[.int .i64 4, .int .i64 high, .int .i64 0] 33) = w8 at h8 HOl HI3 HE3 HCS ⊢
                  refine wpAnyH_ready (rs := [4, 9]) (by kernel_rfl) (by simp) ?_
                  refine AllReadyH.cons rfl (fun K hK => ?_) (AllReadyH.cons rfl (fun K hK => ?_) AllReadyH.nil)
                  · refine step_append_cells _ rfl (.tmp 88) (.tmp 90) _ rfl V.heap.size 33 i0 (.agg #[.int .i64 0, .int .i64 0, .int .i64 0]) 3 24 Try.underlying24 hi0 hz0 hz1 hz2 rfl (by decide) (.slice A2 k c2) k _ rfl HOl.out _ 1 1 _ rfl HCS.out (encSt_one ⟨_, _, _⟩) (by unfold maxLen; omega) (by omega) (Below.size h8.1) ?_
                    intro A5 c5 w9 hown5 hg5
                    refine hK.out _ _ ⟨Below.grown h8.1 hg5 (Below.size h8.1) (fun r e => owns_block HOl.out r e), h8.2.grown hg5 (fun r e => Nat.ne_of_lt (HLT2.out r e))⟩ (fun h9 => ?_)
                    clear hK K
                    try simp only [Act.put, List.getElem_toArray, List.getElem_cons_succ, List.getElem_cons_zero, List.setIfInBounds_toArray, List.set_cons_zero, List.set_cons_succ]
                    have HR5 := Lib.hid (ownsRow_rows (enc := encSt) (zs := p2 ++ [⟨4, high, 0⟩]) encSt_len (by decide) (by rw [List.flatMap_append]; exact hown5))
                    have HE3 := Lib.hid (HE3.out.grown hg5 (fun r e => by have := HLT2.out r e; have := HPLa.out; omega))
                    have HI3 := Lib.hid (ints_grown HI3.out hg5 (fun q e r e2 => by have := HLT2.out r e2; have := HF3.out q e; omega))
                    clear hown5 hg5
                    refine wpAnyH_ready (rs := [5, 9]) (by kernel_rfl) (by simp) ?_
                    refine AllReadyH.cons rfl (fun K hK => ?_) (AllReadyH.cons rfl (fun K hK => ?_) AllReadyH.nil)
                    · go_simp
                      refine (HH.out.run E3.out E4.out HY.out HM.out N2.out (by omega) HR5.out).mono ?_
                      rintro e w10 ⟨A6b, n6, c6b, rfl, hn6, hI6, hb6, hf6⟩
                      obtain rfl : n6 = 1 := hn6
                      refine hK.out _ _ ⟨On.step h9.1 hb6, h9.2.below hb6⟩ (fun h10 => ?_)
                      clear hK K
                      try simp only [Act.put, List.getElem_toArray, List.getElem_cons_succ, List.getElem_cons_zero, List.setIfInBounds_toArray, List.set_cons_zero, List.set_cons_succ]
                      have HF4 := Lib.hid (show ∀ q, A6b = some q → BP < q.block from fun q e => Nat.lt_of_lt_of_le h9.2.lt (hf6 q e))
                      have HI3 := Lib.hid (ints_on HI3.out hb6)
                      have HE3 := Lib.hid (HE3.out.below hb6)
                      have HI5 := Lib.hid hI6
                      clear hI6 hb6 hf6
                      refine wpAnyH_take (i := 6) (v := ?_) rfl (by kernel_rfl) (by kernel_rfl) (by kernel_rfl) (fun _ _ _ h => h) (Or.inl ⟨by rfl, ?_⟩) h10 ?_
                      rotate_left
                      · intro w hSw; obtain ⟨hSw, hSp⟩ := hSw; obtain ⟨⟨g0, g1, g2⟩, _⟩ := hSp.of3; go_simp; with_reducible rfl
                      try simp only [Act.put, List.getElem_toArray, List.getElem_cons_succ, List.getElem_cons_zero, List.setIfInBounds_toArray, List.set_cons_zero, List.set_cons_succ]
                      refine wpAnyH_take (i := 7) (v := ?_) rfl (by kernel_rfl) (by kernel_rfl) (by kernel_rfl) (fun _ _ _ h => h) (Or.inl ⟨by rfl, ?_⟩) h10 ?_
                      rotate_left
                      · intro w hSw; obtain ⟨hSw, hSp⟩ := hSw; obtain ⟨⟨g0, g1, g2⟩, _⟩ := hSp.of3; go_simp; with_reducible rfl
                      try simp only [Act.put, List.getElem_toArray, List.getElem_cons_succ, List.getElem_cons_zero, List.setIfInBounds_toArray, List.set_cons_zero, List.set_cons_succ]
                      refine wpAnyH_take (i := 8) (v := ?_) rfl (by kernel_rfl) (by kernel_rfl) (by kernel_rfl) (fun _ _ _ h => h) (Or.inl ⟨by rfl, ?_⟩) h10 ?_
                      rotate_left
                      · intro w hSw; obtain ⟨hSw, hSp⟩ := hSw; obtain ⟨⟨g0, g1, g2⟩, _⟩ := hSp.of3; go_simp; with_reducible rfl
                      try simp only [Act.put, List.getElem_toArray, List.getElem_cons_succ, List.getElem_cons_zero, List.setIfInBounds_toArray, List.set_cons_zero, List.set_cons_succ]
                      refine wpAnyH_ready (rs := [9]) (by kernel_rfl) (by simp) ?_
                      refine AllReadyH.cons rfl (fun K hK => ?_) AllReadyH.nil
                      go_simp
                      refine hK.out _ _ ⟨On.alloc h10.1 _, h10.2.alloc _⟩ (fun h11 => ?_)
                      clear hK K
                      try simp only [Act.put, List.getElem_toArray, List.getElem_cons_succ, List.getElem_cons_zero, List.setIfInBounds_toArray, List.set_cons_zero, List.set_cons_succ]
                      have hbz : Below w10.heap.size w10 (w10.alloc (.cells #[.int .i64 0, .int .i64 0] 23)) := (Below.refl _ _).alloc (Nat.le_refl _) _
                      have HPB := Lib.hid (Box.new2 w10 (.int .i64 0) (.int .i64 0) 23)
                      have HPL := Lib.hid (show BP < w10.heap.size from h10.2.lt)
                      have HNI := Lib.hid (show ∀ q, A6b = some q → q.block ≠ w10.heap.size from fun q e => Nat.ne_of_lt (ints_lt HI5.out (by decide) q e))
                      have HBB := Lib.hid (show BBa ≠ w10.heap.size from Nat.ne_of_lt HE3.out.lt)
                      have HN3 := Lib.hid (show ∀ q, A6a = some q → q.block ≠ w10.heap.size from fun q e => Nat.ne_of_lt (ints_lt HI3.out (by decide) q e))
                      have HI3 := Lib.hid (ints_on HI3.out hbz)
                      have HE3 := Lib.hid (HE3.out.below hbz)
                      have HI5 := Lib.hid (ints_on HI5.out hbz)
                      clear hbz
                      generalize w10.heap.size = BBb at HPB HPL HNI HN3 HBB ⊢
                      generalize w10.alloc (.cells #[.int .i64 0, .int .i64 0] 23) = w11 at h11 HI3 HE3 HI5 HPB ⊢
                      refine wpAnyH_ready (rs := [10]) (by kernel_rfl) (by simp) ?_
                      refine AllReadyH.cons rfl (fun K hK => ?_) AllReadyH.nil
                      obtain ⟨d0, d1, d2, d3, d4⟩ := HPB.out.of2
                      go_simp
                      refine hK.out _ _ ⟨On.set (On.set h11.1 (by have := HPL.out; have := HVB.out; omega) _) (by have := HPL.out; have := HVB.out; omega) _, (h11.2.set_other (m := BBb) (by have := HPL.out; omega) 0 _).set_other (m := BBb) (by have := HPL.out; omega) 1 _⟩ (fun h12 => ?_)
                      clear hK K d0 d1 d2 d3 d4
                      try simp only [Act.put, List.getElem_toArray, List.getElem_cons_succ, List.getElem_cons_zero, List.setIfInBounds_toArray, List.set_cons_zero, List.set_cons_succ]
                      have HPB := Lib.hid (show Box ((w11.setCell ⟨BBb, 0, none⟩ (.int .i64 (y + x + high))).setCell ⟨BBb, 1, none⟩ (.int .i64 0)) BBb [.int .i64 (y + x + high), .int .i64 0] from (HPB.out.set 0 (.int .i64 (y + x + high)) (by simp)).set 1 (.int .i64 0) (by simp))
                      have HI5 := Lib.hid (ints_set (ints_set HI5.out HNI.out 0 (.int .i64 (y + x + high))) HNI.out 1 (.int .i64 0))
                      have HE3 := Lib.hid ((HE3.out.set_other (m := BBb) HBB.out.symm 0 (.int .i64 (y + x + high))).set_other (m := BBb) HBB.out.symm 1 (.int .i64 0))
                      have HI3 := Lib.hid (ints_set (ints_set HI3.out HN3.out 0 (.int .i64 (y + x + high))) HN3.out 1 (.int .i64 0))
                      generalize (w11.setCell ⟨BBb, 0, none⟩ (.int .i64 (y + x + high))).setCell ⟨BBb, 1, none⟩ (.int .i64 0) = w12 at h12 HI3 HE3 HI5 HPB ⊢
                      refine wpAnyH_take (i := 11) (v := ?_) rfl (by kernel_rfl) (by kernel_rfl) (by kernel_rfl) (fun _ _ _ h => h) (Or.inl ⟨by rfl, ?_⟩) h12 ?_
                      rotate_left
                      · intro w hSw; obtain ⟨hSw, hSp⟩ := hSw; obtain ⟨⟨g0, g1, g2⟩, _⟩ := hSp.of3; go_simp; with_reducible rfl
                      try simp only [Act.put, List.getElem_toArray, List.getElem_cons_succ, List.getElem_cons_zero, List.setIfInBounds_toArray, List.set_cons_zero, List.set_cons_succ]
                      refine wpAnyH_done (by kernel_rfl) ?_ _
                      have C1 := Lib.hid (show ∀ p' : OnW w12, Calls Try.prog 10 #[.slice A6a 1 c6a, .slice A6b 1 c6b] p'.w fun e w' => e = .returned (.bool true) ∧ Below p'.w.heap.size p'.w w' from fun p' => rnumbers_to (v := true) (by simp) (ints_on HI3.out p'.h) (ints_on HI5.out p'.h))
                      have C2 := Lib.hid (show ∀ p' : OnW w12, Calls Try.prog 19 #[.int .i64 (y + x + high), .int .i64 0] p'.w fun e w' => e = .returned (.agg #[.int .i64 (y + x + high), .int .i64 0]) ∧ Below p'.w.heap.size p'.w w' from fun p' => pen_to _ _ _)
                      have C3 := Lib.hid (show ∀ p' : OnW w12, Calls Try.prog 7 #[] p'.w fun e w' => e = .returned (.bool true) ∧ Below p'.w.heap.size p'.w w' from fun p' => mawake_any HH.out _)
                      have HX9 := Lib.hid (HX.out.below h12.1)
                      have HB := Lib.hid (below_then HB.out h12.1)
                      obtain ⟨k0, k1⟩ := OnW.of2 HX9.out
                      obtain ⟨j2, j3⟩ := OnW.of2 HE3.out
                      obtain ⟨d0, d1⟩ := OnW.of2 HPB.out
                      obtain ⟨b9, o9, z9, e9, hz9, hc9⟩ := ints_get HI3.out (show 0 < 1 by decide)
                      subst e9
                      obtain rfl : y + x = z9 := by injection hz9
                      rw [Nat.add_zero] at hc9
                      have d9 := OnW.cell hc9
                      have he := pn_same
                      clear hc9 hz9
                      go_wp2_with fail
                      refine wp_region_on (by kernel_rfl) (by kernel_rfl) ?_
                      repeat (go_big_quiet_step ((first
                          | (go_at_call 10; with_reducible exact Calls.on_of (C1.out _))
                          | (go_at_call 19; with_reducible exact Calls.on_of (C2.out _))
                          | (go_at_call 7; with_reducible exact Calls.on_of (C3.out _)))))
                      refine wpQuiet_nil ?_
                      intro w99 hw'
                      obtain ⟨⟨w', hOn⟩, hw''⟩ := hw'
                      obtain rfl : w99 = w' := hw''
                      have HB9 := Lib.hid (below_then HB.out hOn)
                      clear hOn k0 k1 j2 j3 d0 d1 d9
                      go_wp2_with fail
                      go_ret
                      exact ⟨rfl, HB9.out⟩
                    · go_simp
                      refine hK.out _ _ ⟨On.alloc h9.1 _, h9.2.alloc _⟩ (fun h10 => ?_)
                      clear hK K
                      try simp only [Act.put, List.getElem_toArray, List.getElem_cons_succ, List.getElem_cons_zero, List.setIfInBounds_toArray, List.set_cons_zero, List.set_cons_succ]
                      have hbz : Below w9.heap.size w9 (w9.alloc (.cells #[.int .i64 0, .int .i64 0] 23)) := (Below.refl _ _).alloc (Nat.le_refl _) _
                      have HPB := Lib.hid (Box.new2 w9 (.int .i64 0) (.int .i64 0) 23)
                      have HPL := Lib.hid (show BP < w9.heap.size from h9.2.lt)
                      have HBB := Lib.hid (show BBa ≠ w9.heap.size from Nat.ne_of_lt HE3.out.lt)
                      have HN3 := Lib.hid (show ∀ q, A6a = some q → q.block ≠ w9.heap.size from fun q e => Nat.ne_of_lt (ints_lt HI3.out (by decide) q e))
                      have HI3 := Lib.hid (ints_on HI3.out hbz)
                      have HE3 := Lib.hid (HE3.out.below hbz)
                      have HR5 := Lib.hid (HR5.out.below hbz)
                      clear hbz
                      generalize w9.heap.size = BBb at HPB HPL HN3 HBB ⊢
                      generalize w9.alloc (.cells #[.int .i64 0, .int .i64 0] 23) = w10 at h10 HI3 HE3 HR5 HPB ⊢
                      refine wpAnyH_ready (rs := [5]) (by kernel_rfl) (by simp) ?_
                      refine AllReadyH.cons rfl (fun K hK => ?_) AllReadyH.nil
                      go_simp
                      refine (HH.out.run E3.out E4.out HY.out HM.out N2.out (by omega) HR5.out).mono ?_
                      rintro e w11 ⟨A6b, n6, c6b, rfl, hn6, hI6, hb6, hf6⟩
                      obtain rfl : n6 = 1 := hn6
                      refine hK.out _ _ ⟨On.step h10.1 hb6, h10.2.below hb6⟩ (fun h11 => ?_)
                      clear hK K
                      try simp only [Act.put, List.getElem_toArray, List.getElem_cons_succ, List.getElem_cons_zero, List.setIfInBounds_toArray, List.set_cons_zero, List.set_cons_succ]
                      have HF4 := Lib.hid (show ∀ q, A6b = some q → BP < q.block from fun q e => Nat.lt_of_lt_of_le h10.2.lt (hf6 q e))
                      have HNI := Lib.hid (show ∀ q, A6b = some q → q.block ≠ BBb from fun q e => Nat.ne_of_gt (Nat.lt_of_lt_of_le HPB.out.lt (hf6 q e)))
                      have HI3 := Lib.hid (ints_on HI3.out hb6)
                      have HE3 := Lib.hid (HE3.out.below hb6)
                      have HPB := Lib.hid (HPB.out.below hb6)
                      have HI5 := Lib.hid hI6
                      clear hI6 hb6 hf6
                      refine wpAnyH_take (i := 6) (v := ?_) rfl (by kernel_rfl) (by kernel_rfl) (by kernel_rfl) (fun _ _ _ h => h) (Or.inl ⟨by rfl, ?_⟩) h11 ?_
                      rotate_left
                      · intro w hSw; obtain ⟨hSw, hSp⟩ := hSw; obtain ⟨⟨g0, g1, g2⟩, _⟩ := hSp.of3; go_simp; with_reducible rfl
                      try simp only [Act.put, List.getElem_toArray, List.getElem_cons_succ, List.getElem_cons_zero, List.setIfInBounds_toArray, List.set_cons_zero, List.set_cons_succ]
                      refine wpAnyH_take (i := 7) (v := ?_) rfl (by kernel_rfl) (by kernel_rfl) (by kernel_rfl) (fun _ _ _ h => h) (Or.inl ⟨by rfl, ?_⟩) h11 ?_
                      rotate_left
                      · intro w hSw; obtain ⟨hSw, hSp⟩ := hSw; obtain ⟨⟨g0, g1, g2⟩, _⟩ := hSp.of3; go_simp; with_reducible rfl
                      try simp only [Act.put, List.getElem_toArray, List.getElem_cons_succ, List.getElem_cons_zero, List.setIfInBounds_toArray, List.set_cons_zero, List.set_cons_succ]
                      refine wpAnyH_take (i := 8) (v := ?_) rfl (by kernel_rfl) (by kernel_rfl) (by kernel_rfl) (fun _ _ _ h => h) (Or.inl ⟨by rfl, ?_⟩) h11 ?_
                      rotate_left
                      · intro w hSw; obtain ⟨hSw, hSp⟩ := hSw; obtain ⟨⟨g0, g1, g2⟩, _⟩ := hSp.of3; go_simp; with_reducible rfl
                      try simp only [Act.put, List.getElem_toArray, List.getElem_cons_succ, List.getElem_cons_zero, List.setIfInBounds_toArray, List.set_cons_zero, List.set_cons_succ]
                      refine wpAnyH_ready (rs := [10]) (by kernel_rfl) (by simp) ?_
                      refine AllReadyH.cons rfl (fun K hK => ?_) AllReadyH.nil
                      obtain ⟨d0, d1, d2, d3, d4⟩ := HPB.out.of2
                      go_simp
                      refine hK.out _ _ ⟨On.set (On.set h11.1 (by have := HPL.out; have := HVB.out; omega) _) (by have := HPL.out; have := HVB.out; omega) _, (h11.2.set_other (m := BBb) (by have := HPL.out; omega) 0 _).set_other (m := BBb) (by have := HPL.out; omega) 1 _⟩ (fun h12 => ?_)
                      clear hK K d0 d1 d2 d3 d4
                      try simp only [Act.put, List.getElem_toArray, List.getElem_cons_succ, List.getElem_cons_zero, List.setIfInBounds_toArray, List.set_cons_zero, List.set_cons_succ]
                      have HPB := Lib.hid (show Box ((w11.setCell ⟨BBb, 0, none⟩ (.int .i64 (y + x + high))).setCell ⟨BBb, 1, none⟩ (.int .i64 0)) BBb [.int .i64 (y + x + high), .int .i64 0] from (HPB.out.set 0 (.int .i64 (y + x + high)) (by simp)).set 1 (.int .i64 0) (by simp))
                      have HI5 := Lib.hid (ints_set (ints_set HI5.out HNI.out 0 (.int .i64 (y + x + high))) HNI.out 1 (.int .i64 0))
                      have HE3 := Lib.hid ((HE3.out.set_other (m := BBb) HBB.out.symm 0 (.int .i64 (y + x + high))).set_other (m := BBb) HBB.out.symm 1 (.int .i64 0))
                      have HI3 := Lib.hid (ints_set (ints_set HI3.out HN3.out 0 (.int .i64 (y + x + high))) HN3.out 1 (.int .i64 0))
                      generalize (w11.setCell ⟨BBb, 0, none⟩ (.int .i64 (y + x + high))).setCell ⟨BBb, 1, none⟩ (.int .i64 0) = w12 at h12 HI3 HE3 HPB HI5 ⊢
                      refine wpAnyH_take (i := 11) (v := ?_) rfl (by kernel_rfl) (by kernel_rfl) (by kernel_rfl) (fun _ _ _ h => h) (Or.inl ⟨by rfl, ?_⟩) h12 ?_
                      rotate_left
                      · intro w hSw; obtain ⟨hSw, hSp⟩ := hSw; obtain ⟨⟨g0, g1, g2⟩, _⟩ := hSp.of3; go_simp; with_reducible rfl
                      try simp only [Act.put, List.getElem_toArray, List.getElem_cons_succ, List.getElem_cons_zero, List.setIfInBounds_toArray, List.set_cons_zero, List.set_cons_succ]
                      refine wpAnyH_done (by kernel_rfl) ?_ _
                      have C1 := Lib.hid (show ∀ p' : OnW w12, Calls Try.prog 10 #[.slice A6a 1 c6a, .slice A6b 1 c6b] p'.w fun e w' => e = .returned (.bool true) ∧ Below p'.w.heap.size p'.w w' from fun p' => rnumbers_to (v := true) (by simp) (ints_on HI3.out p'.h) (ints_on HI5.out p'.h))
                      have C2 := Lib.hid (show ∀ p' : OnW w12, Calls Try.prog 19 #[.int .i64 (y + x + high), .int .i64 0] p'.w fun e w' => e = .returned (.agg #[.int .i64 (y + x + high), .int .i64 0]) ∧ Below p'.w.heap.size p'.w w' from fun p' => pen_to _ _ _)
                      have C3 := Lib.hid (show ∀ p' : OnW w12, Calls Try.prog 7 #[] p'.w fun e w' => e = .returned (.bool true) ∧ Below p'.w.heap.size p'.w w' from fun p' => mawake_any HH.out _)
                      have HX9 := Lib.hid (HX.out.below h12.1)
                      have HB := Lib.hid (below_then HB.out h12.1)
                      obtain ⟨k0, k1⟩ := OnW.of2 HX9.out
                      obtain ⟨j2, j3⟩ := OnW.of2 HE3.out
                      obtain ⟨d0, d1⟩ := OnW.of2 HPB.out
                      obtain ⟨b9, o9, z9, e9, hz9, hc9⟩ := ints_get HI3.out (show 0 < 1 by decide)
                      subst e9
                      obtain rfl : y + x = z9 := by injection hz9
                      rw [Nat.add_zero] at hc9
                      have d9 := OnW.cell hc9
                      have he := pn_same
                      clear hc9 hz9
                      go_wp2_with fail
                      refine wp_region_on (by kernel_rfl) (by kernel_rfl) ?_
                      repeat (go_big_quiet_step ((first
                          | (go_at_call 10; with_reducible exact Calls.on_of (C1.out _))
                          | (go_at_call 19; with_reducible exact Calls.on_of (C2.out _))
                          | (go_at_call 7; with_reducible exact Calls.on_of (C3.out _)))))
                      refine wpQuiet_nil ?_
                      intro w99 hw'
                      obtain ⟨⟨w', hOn⟩, hw''⟩ := hw'
                      obtain rfl : w99 = w' := hw''
                      have HB9 := Lib.hid (below_then HB.out hOn)
                      clear hOn k0 k1 j2 j3 d0 d1 d9
                      go_wp2_with fail
                      go_ret
                      exact ⟨rfl, HB9.out⟩
                  · go_simp
                    refine hK.out _ _ ⟨On.alloc h8.1 _, h8.2.alloc _⟩ (fun h9 => ?_)
                    clear hK K
                    try simp only [Act.put, List.getElem_toArray, List.getElem_cons_succ, List.getElem_cons_zero, List.setIfInBounds_toArray, List.set_cons_zero, List.set_cons_succ]
                    have hbz : Below w8.heap.size w8 (w8.alloc (.cells #[.int .i64 0, .int .i64 0] 23)) := (Below.refl _ _).alloc (Nat.le_refl _) _
                    have HPB := Lib.hid (Box.new2 w8 (.int .i64 0) (.int .i64 0) 23)
                    have HPL := Lib.hid (show BP < w8.heap.size from h8.2.lt)
                    have HBB := Lib.hid (show BBa ≠ w8.heap.size from Nat.ne_of_lt HE3.out.lt)
                    have HN3 := Lib.hid (show ∀ q, A6a = some q → q.block ≠ w8.heap.size from fun q e => Nat.ne_of_lt (ints_lt HI3.out (by decide) q e))
                    have HOl := Lib.hid (owns_below HOl.out hbz)
                    have HI3 := Lib.hid (ints_on HI3.out hbz)
                    have HE3 := Lib.hid (HE3.out.below hbz)
                    have HCS := Lib.hid (HCS.out.below hbz rfl)
                    clear hbz
                    generalize w8.heap.size = BBb at HPB HPL HN3 HBB ⊢
                    generalize w8.alloc (.cells #[.int .i64 0, .int .i64 0] 23) = w9 at h9 HOl HI3 HE3 HCS HPB ⊢
                    refine wpAnyH_ready (rs := [4]) (by kernel_rfl) (by simp) ?_
                    refine AllReadyH.cons rfl (fun K hK => ?_) AllReadyH.nil
                    refine step_append_cells _ rfl (.tmp 88) (.tmp 90) _ rfl V.heap.size 33 i0 (.agg #[.int .i64 0, .int .i64 0, .int .i64 0]) 3 24 Try.underlying24 hi0 hz0 hz1 hz2 rfl (by decide) (.slice A2 k c2) k _ rfl HOl.out _ 1 1 _ rfl HCS.out (encSt_one ⟨_, _, _⟩) (by unfold maxLen; omega) (by omega) (Below.size h9.1) ?_
                    intro A5 c5 w10 hown5 hg5
                    refine hK.out _ _ ⟨Below.grown h9.1 hg5 (Below.size h9.1) (fun r e => owns_block HOl.out r e), h9.2.grown hg5 (fun r e => Nat.ne_of_lt (HLT2.out r e))⟩ (fun h10 => ?_)
                    clear hK K
                    try simp only [Act.put, List.getElem_toArray, List.getElem_cons_succ, List.getElem_cons_zero, List.setIfInBounds_toArray, List.set_cons_zero, List.set_cons_succ]
                    have HR5 := Lib.hid (ownsRow_rows (enc := encSt) (zs := p2 ++ [⟨4, high, 0⟩]) encSt_len (by decide) (by rw [List.flatMap_append]; exact hown5))
                    have HPB := Lib.hid (HPB.out.grown hg5 (fun r e => by have := HLT2.out r e; have := HPL.out; omega))
                    have HE3 := Lib.hid (HE3.out.grown hg5 (fun r e => by have := HLT2.out r e; have := HPLa.out; omega))
                    have HI3 := Lib.hid (ints_grown HI3.out hg5 (fun q e r e2 => by have := HLT2.out r e2; have := HF3.out q e; omega))
                    clear hown5 hg5
                    refine wpAnyH_ready (rs := [5]) (by kernel_rfl) (by simp) ?_
                    refine AllReadyH.cons rfl (fun K hK => ?_) AllReadyH.nil
                    go_simp
                    refine (HH.out.run E3.out E4.out HY.out HM.out N2.out (by omega) HR5.out).mono ?_
                    rintro e w11 ⟨A6b, n6, c6b, rfl, hn6, hI6, hb6, hf6⟩
                    obtain rfl : n6 = 1 := hn6
                    refine hK.out _ _ ⟨On.step h10.1 hb6, h10.2.below hb6⟩ (fun h11 => ?_)
                    clear hK K
                    try simp only [Act.put, List.getElem_toArray, List.getElem_cons_succ, List.getElem_cons_zero, List.setIfInBounds_toArray, List.set_cons_zero, List.set_cons_succ]
                    have HF4 := Lib.hid (show ∀ q, A6b = some q → BP < q.block from fun q e => Nat.lt_of_lt_of_le h10.2.lt (hf6 q e))
                    have HNI := Lib.hid (show ∀ q, A6b = some q → q.block ≠ BBb from fun q e => Nat.ne_of_gt (Nat.lt_of_lt_of_le HPB.out.lt (hf6 q e)))
                    have HI3 := Lib.hid (ints_on HI3.out hb6)
                    have HE3 := Lib.hid (HE3.out.below hb6)
                    have HPB := Lib.hid (HPB.out.below hb6)
                    have HI5 := Lib.hid hI6
                    clear hI6 hb6 hf6
                    refine wpAnyH_take (i := 6) (v := ?_) rfl (by kernel_rfl) (by kernel_rfl) (by kernel_rfl) (fun _ _ _ h => h) (Or.inl ⟨by rfl, ?_⟩) h11 ?_
                    rotate_left
                    · intro w hSw; obtain ⟨hSw, hSp⟩ := hSw; obtain ⟨⟨g0, g1, g2⟩, _⟩ := hSp.of3; go_simp; with_reducible rfl
                    try simp only [Act.put, List.getElem_toArray, List.getElem_cons_succ, List.getElem_cons_zero, List.setIfInBounds_toArray, List.set_cons_zero, List.set_cons_succ]
                    refine wpAnyH_take (i := 7) (v := ?_) rfl (by kernel_rfl) (by kernel_rfl) (by kernel_rfl) (fun _ _ _ h => h) (Or.inl ⟨by rfl, ?_⟩) h11 ?_
                    rotate_left
                    · intro w hSw; obtain ⟨hSw, hSp⟩ := hSw; obtain ⟨⟨g0, g1, g2⟩, _⟩ := hSp.of3; go_simp; with_reducible rfl
                    try simp only [Act.put, List.getElem_toArray, List.getElem_cons_succ, List.getElem_cons_zero, List.setIfInBounds_toArray, List.set_cons_zero, List.set_cons_succ]
                    refine wpAnyH_take (i := 8) (v := ?_) rfl (by kernel_rfl) (by kernel_rfl) (by kernel_rfl) (fun _ _ _ h => h) (Or.inl ⟨by rfl, ?_⟩) h11 ?_
                    rotate_left
                    · intro w hSw; obtain ⟨hSw, hSp⟩ := hSw; obtain ⟨⟨g0, g1, g2⟩, _⟩ := hSp.of3; go_simp; with_reducible rfl
                    try simp only [Act.put, List.getElem_toArray, List.getElem_cons_succ, List.getElem_cons_zero, List.setIfInBounds_toArray, List.set_cons_zero, List.set_cons_succ]
                    refine wpAnyH_ready (rs := [10]) (by kernel_rfl) (by simp) ?_
                    refine AllReadyH.cons rfl (fun K hK => ?_) AllReadyH.nil
                    obtain ⟨d0, d1, d2, d3, d4⟩ := HPB.out.of2
                    go_simp
                    refine hK.out _ _ ⟨On.set (On.set h11.1 (by have := HPL.out; have := HVB.out; omega) _) (by have := HPL.out; have := HVB.out; omega) _, (h11.2.set_other (m := BBb) (by have := HPL.out; omega) 0 _).set_other (m := BBb) (by have := HPL.out; omega) 1 _⟩ (fun h12 => ?_)
                    clear hK K d0 d1 d2 d3 d4
                    try simp only [Act.put, List.getElem_toArray, List.getElem_cons_succ, List.getElem_cons_zero, List.setIfInBounds_toArray, List.set_cons_zero, List.set_cons_succ]
                    have HPB := Lib.hid (show Box ((w11.setCell ⟨BBb, 0, none⟩ (.int .i64 (y + x + high))).setCell ⟨BBb, 1, none⟩ (.int .i64 0)) BBb [.int .i64 (y + x + high), .int .i64 0] from (HPB.out.set 0 (.int .i64 (y + x + high)) (by simp)).set 1 (.int .i64 0) (by simp))
                    have HI5 := Lib.hid (ints_set (ints_set HI5.out HNI.out 0 (.int .i64 (y + x + high))) HNI.out 1 (.int .i64 0))
                    have HE3 := Lib.hid ((HE3.out.set_other (m := BBb) HBB.out.symm 0 (.int .i64 (y + x + high))).set_other (m := BBb) HBB.out.symm 1 (.int .i64 0))
                    have HI3 := Lib.hid (ints_set (ints_set HI3.out HN3.out 0 (.int .i64 (y + x + high))) HN3.out 1 (.int .i64 0))
                    generalize (w11.setCell ⟨BBb, 0, none⟩ (.int .i64 (y + x + high))).setCell ⟨BBb, 1, none⟩ (.int .i64 0) = w12 at h12 HI3 HE3 HPB HI5 ⊢
                    refine wpAnyH_take (i := 11) (v := ?_) rfl (by kernel_rfl) (by kernel_rfl) (by kernel_rfl) (fun _ _ _ h => h) (Or.inl ⟨by rfl, ?_⟩) h12 ?_
                    rotate_left
                    · intro w hSw; obtain ⟨hSw, hSp⟩ := hSw; obtain ⟨⟨g0, g1, g2⟩, _⟩ := hSp.of3; go_simp; with_reducible rfl
                    try simp only [Act.put, List.getElem_toArray, List.getElem_cons_succ, List.getElem_cons_zero, List.setIfInBounds_toArray, List.set_cons_zero, List.set_cons_succ]
                    refine wpAnyH_done (by kernel_rfl) ?_ _
                    have C1 := Lib.hid (show ∀ p' : OnW w12, Calls Try.prog 10 #[.slice A6a 1 c6a, .slice A6b 1 c6b] p'.w fun e w' => e = .returned (.bool true) ∧ Below p'.w.heap.size p'.w w' from fun p' => rnumbers_to (v := true) (by simp) (ints_on HI3.out p'.h) (ints_on HI5.out p'.h))
                    have C2 := Lib.hid (show ∀ p' : OnW w12, Calls Try.prog 19 #[.int .i64 (y + x + high), .int .i64 0] p'.w fun e w' => e = .returned (.agg #[.int .i64 (y + x + high), .int .i64 0]) ∧ Below p'.w.heap.size p'.w w' from fun p' => pen_to _ _ _)
                    have C3 := Lib.hid (show ∀ p' : OnW w12, Calls Try.prog 7 #[] p'.w fun e w' => e = .returned (.bool true) ∧ Below p'.w.heap.size p'.w w' from fun p' => mawake_any HH.out _)
                    have HX9 := Lib.hid (HX.out.below h12.1)
                    have HB := Lib.hid (below_then HB.out h12.1)
                    obtain ⟨k0, k1⟩ := OnW.of2 HX9.out
                    obtain ⟨j2, j3⟩ := OnW.of2 HE3.out
                    obtain ⟨d0, d1⟩ := OnW.of2 HPB.out
                    obtain ⟨b9, o9, z9, e9, hz9, hc9⟩ := ints_get HI3.out (show 0 < 1 by decide)
                    subst e9
                    obtain rfl : y + x = z9 := by injection hz9
                    rw [Nat.add_zero] at hc9
                    have d9 := OnW.cell hc9
                    have he := pn_same
                    clear hc9 hz9
                    go_wp2_with fail
                    refine wp_region_on (by kernel_rfl) (by kernel_rfl) ?_
                    repeat (go_big_quiet_step ((first
                        | (go_at_call 10; with_reducible exact Calls.on_of (C1.out _))
                        | (go_at_call 19; with_reducible exact Calls.on_of (C2.out _))
                        | (go_at_call 7; with_reducible exact Calls.on_of (C3.out _)))))
                    refine wpQuiet_nil ?_
                    intro w99 hw'
                    obtain ⟨⟨w', hOn⟩, hw''⟩ := hw'
                    obtain rfl : w99 = w' := hw''
                    have HB9 := Lib.hid (below_then HB.out hOn)
                    clear hOn k0 k1 j2 j3 d0 d1 d9
                    go_wp2_with fail
                    go_ret
                    exact ⟨rfl, HB9.out⟩
                · go_simp
                  refine hK.out _ _ ⟨On.alloc h7.1 _, h7.2.alloc _⟩ (fun h8 => ?_)
                  clear hK K
                  try simp only [Act.put, List.getElem_toArray, List.getElem_cons_succ, List.getElem_cons_zero, List.setIfInBounds_toArray, List.set_cons_zero, List.set_cons_succ]
                  have hbz : Below w7.heap.size w7 (w7.alloc (.cells #[.int .i64 0, .int .i64 0] 23)) := (Below.refl _ _).alloc (Nat.le_refl _) _
                  have HPB := Lib.hid (Box.new2 w7 (.int .i64 0) (.int .i64 0) 23)
                  have HPL := Lib.hid (show BP < w7.heap.size from h7.2.lt)
                  have HBB := Lib.hid (show BBa ≠ w7.heap.size from Nat.ne_of_lt HE3.out.lt)
                  have HN3 := Lib.hid (show ∀ q, A6a = some q → q.block ≠ w7.heap.size from fun q e => Nat.ne_of_lt (ints_lt HI3.out (by decide) q e))
                  have HOl := Lib.hid (owns_below HOl.out hbz)
                  have HI3 := Lib.hid (ints_on HI3.out hbz)
                  have HE3 := Lib.hid (HE3.out.below hbz)
                  clear hbz
                  generalize w7.heap.size = BBb at HPB HPL HN3 HBB ⊢
                  generalize w7.alloc (.cells #[.int .i64 0, .int .i64 0] 23) = w8 at h8 HOl HI3 HE3 HPB ⊢
                  refine wpAnyH_ready (rs := [3]) (by kernel_rfl) (by simp) ?_
                  refine AllReadyH.cons rfl (fun K hK => ?_) AllReadyH.nil
                  go_simp
                  refine hK.out _ _ ⟨On.alloc h8.1 _, h8.2.alloc _⟩ (fun h9 => ?_)
                  clear hK K
                  try simp only [Act.put, List.getElem_toArray, List.getElem_cons_succ, List.getElem_cons_zero, List.setIfInBounds_toArray, List.set_cons_zero, List.set_cons_succ]
                  have hbz : Below w8.heap.size w8 (w8.alloc (.cells #[.int .i64 4, .int .i64 high, .int .i64 0] 33)) := (Below.refl _ _).alloc (Nat.le_refl _) _
                  have HCS := Lib.hid (cells_st w8 33 4 high 0)
                  have HOl := Lib.hid (owns_below HOl.out hbz)
                  have HI3 := Lib.hid (ints_on HI3.out hbz)
                  have HE3 := Lib.hid (HE3.out.below hbz)
                  have HPB := Lib.hid (HPB.out.below hbz)
                  clear hbz
                  generalize w8.heap.size = BS at HCS ⊢
                  generalize w8.alloc (.cells #[.int .i64 4, .int .i64 high, .int .i64 0] 33) = w9 at h9 HOl HI3 HE3 HPB HCS ⊢
                  refine wpAnyH_ready (rs := [4]) (by kernel_rfl) (by simp) ?_
                  refine AllReadyH.cons rfl (fun K hK => ?_) AllReadyH.nil
                  refine step_append_cells _ rfl (.tmp 88) (.tmp 90) _ rfl V.heap.size 33 i0 (.agg #[.int .i64 0, .int .i64 0, .int .i64 0]) 3 24 Try.underlying24 hi0 hz0 hz1 hz2 rfl (by decide) (.slice A2 k c2) k _ rfl HOl.out _ 1 1 _ rfl HCS.out (encSt_one ⟨_, _, _⟩) (by unfold maxLen; omega) (by omega) (Below.size h9.1) ?_
                  intro A5 c5 w10 hown5 hg5
                  refine hK.out _ _ ⟨Below.grown h9.1 hg5 (Below.size h9.1) (fun r e => owns_block HOl.out r e), h9.2.grown hg5 (fun r e => Nat.ne_of_lt (HLT2.out r e))⟩ (fun h10 => ?_)
                  clear hK K
                  try simp only [Act.put, List.getElem_toArray, List.getElem_cons_succ, List.getElem_cons_zero, List.setIfInBounds_toArray, List.set_cons_zero, List.set_cons_succ]
                  have HR5 := Lib.hid (ownsRow_rows (enc := encSt) (zs := p2 ++ [⟨4, high, 0⟩]) encSt_len (by decide) (by rw [List.flatMap_append]; exact hown5))
                  have HPB := Lib.hid (HPB.out.grown hg5 (fun r e => by have := HLT2.out r e; have := HPL.out; omega))
                  have HE3 := Lib.hid (HE3.out.grown hg5 (fun r e => by have := HLT2.out r e; have := HPLa.out; omega))
                  have HI3 := Lib.hid (ints_grown HI3.out hg5 (fun q e r e2 => by have := HLT2.out r e2; have := HF3.out q e; omega))
                  clear hown5 hg5
                  refine wpAnyH_ready (rs := [5]) (by kernel_rfl) (by simp) ?_
                  refine AllReadyH.cons rfl (fun K hK => ?_) AllReadyH.nil
                  go_simp
                  refine (HH.out.run E3.out E4.out HY.out HM.out N2.out (by omega) HR5.out).mono ?_
                  rintro e w11 ⟨A6b, n6, c6b, rfl, hn6, hI6, hb6, hf6⟩
                  obtain rfl : n6 = 1 := hn6
                  refine hK.out _ _ ⟨On.step h10.1 hb6, h10.2.below hb6⟩ (fun h11 => ?_)
                  clear hK K
                  try simp only [Act.put, List.getElem_toArray, List.getElem_cons_succ, List.getElem_cons_zero, List.setIfInBounds_toArray, List.set_cons_zero, List.set_cons_succ]
                  have HF4 := Lib.hid (show ∀ q, A6b = some q → BP < q.block from fun q e => Nat.lt_of_lt_of_le h10.2.lt (hf6 q e))
                  have HNI := Lib.hid (show ∀ q, A6b = some q → q.block ≠ BBb from fun q e => Nat.ne_of_gt (Nat.lt_of_lt_of_le HPB.out.lt (hf6 q e)))
                  have HI3 := Lib.hid (ints_on HI3.out hb6)
                  have HE3 := Lib.hid (HE3.out.below hb6)
                  have HPB := Lib.hid (HPB.out.below hb6)
                  have HI5 := Lib.hid hI6
                  clear hI6 hb6 hf6
                  refine wpAnyH_take (i := 6) (v := ?_) rfl (by kernel_rfl) (by kernel_rfl) (by kernel_rfl) (fun _ _ _ h => h) (Or.inl ⟨by rfl, ?_⟩) h11 ?_
                  rotate_left
                  · intro w hSw; obtain ⟨hSw, hSp⟩ := hSw; obtain ⟨⟨g0, g1, g2⟩, _⟩ := hSp.of3; go_simp; with_reducible rfl
                  try simp only [Act.put, List.getElem_toArray, List.getElem_cons_succ, List.getElem_cons_zero, List.setIfInBounds_toArray, List.set_cons_zero, List.set_cons_succ]
                  refine wpAnyH_take (i := 7) (v := ?_) rfl (by kernel_rfl) (by kernel_rfl) (by kernel_rfl) (fun _ _ _ h => h) (Or.inl ⟨by rfl, ?_⟩) h11 ?_
                  rotate_left
                  · intro w hSw; obtain ⟨hSw, hSp⟩ := hSw; obtain ⟨⟨g0, g1, g2⟩, _⟩ := hSp.of3; go_simp; with_reducible rfl
                  try simp only [Act.put, List.getElem_toArray, List.getElem_cons_succ, List.getElem_cons_zero, List.setIfInBounds_toArray, List.set_cons_zero, List.set_cons_succ]
                  refine wpAnyH_take (i := 8) (v := ?_) rfl (by kernel_rfl) (by kernel_rfl) (by kernel_rfl) (fun _ _ _ h => h) (Or.inl ⟨by rfl, ?_⟩) h11 ?_
                  rotate_left
                  · intro w hSw; obtain ⟨hSw, hSp⟩ := hSw; obtain ⟨⟨g0, g1, g2⟩, _⟩ := hSp.of3; go_simp; with_reducible rfl
                  try simp only [Act.put, List.getElem_toArray, List.getElem_cons_succ, List.getElem_cons_zero, List.setIfInBounds_toArray, List.set_cons_zero, List.set_cons_succ]
                  refine wpAnyH_ready (rs := [10]) (by kernel_rfl) (by simp) ?_
                  refine AllReadyH.cons rfl (fun K hK => ?_) AllReadyH.nil
                  obtain ⟨d0, d1, d2, d3, d4⟩ := HPB.out.of2
                  go_simp
                  refine hK.out _ _ ⟨On.set (On.set h11.1 (by have := HPL.out; have := HVB.out; omega) _) (by have := HPL.out; have := HVB.out; omega) _, (h11.2.set_other (m := BBb) (by have := HPL.out; omega) 0 _).set_other (m := BBb) (by have := HPL.out; omega) 1 _⟩ (fun h12 => ?_)
                  clear hK K d0 d1 d2 d3 d4
                  try simp only [Act.put, List.getElem_toArray, List.getElem_cons_succ, List.getElem_cons_zero, List.setIfInBounds_toArray, List.set_cons_zero, List.set_cons_succ]
                  have HPB := Lib.hid (show Box ((w11.setCell ⟨BBb, 0, none⟩ (.int .i64 (y + x + high))).setCell ⟨BBb, 1, none⟩ (.int .i64 0)) BBb [.int .i64 (y + x + high), .int .i64 0] from (HPB.out.set 0 (.int .i64 (y + x + high)) (by simp)).set 1 (.int .i64 0) (by simp))
                  have HI5 := Lib.hid (ints_set (ints_set HI5.out HNI.out 0 (.int .i64 (y + x + high))) HNI.out 1 (.int .i64 0))
                  have HE3 := Lib.hid ((HE3.out.set_other (m := BBb) HBB.out.symm 0 (.int .i64 (y + x + high))).set_other (m := BBb) HBB.out.symm 1 (.int .i64 0))
                  have HI3 := Lib.hid (ints_set (ints_set HI3.out HN3.out 0 (.int .i64 (y + x + high))) HN3.out 1 (.int .i64 0))
                  generalize (w11.setCell ⟨BBb, 0, none⟩ (.int .i64 (y + x + high))).setCell ⟨BBb, 1, none⟩ (.int .i64 0) = w12 at h12 HI3 HE3 HPB HI5 ⊢
                  refine wpAnyH_take (i := 11) (v := ?_) rfl (by kernel_rfl) (by kernel_rfl) (by kernel_rfl) (fun _ _ _ h => h) (Or.inl ⟨by rfl, ?_⟩) h12 ?_
                  rotate_left
                  · intro w hSw; obtain ⟨hSw, hSp⟩ := hSw; obtain ⟨⟨g0, g1, g2⟩, _⟩ := hSp.of3; go_simp; with_reducible rfl
                  try simp only [Act.put, List.getElem_toArray, List.getElem_cons_succ, List.getElem_cons_zero, List.setIfInBounds_toArray, List.set_cons_zero, List.set_cons_succ]
                  refine wpAnyH_done (by kernel_rfl) ?_ _
                  have C1 := Lib.hid (show ∀ p' : OnW w12, Calls Try.prog 10 #[.slice A6a 1 c6a, .slice A6b 1 c6b] p'.w fun e w' => e = .returned (.bool true) ∧ Below p'.w.heap.size p'.w w' from fun p' => rnumbers_to (v := true) (by simp) (ints_on HI3.out p'.h) (ints_on HI5.out p'.h))
                  have C2 := Lib.hid (show ∀ p' : OnW w12, Calls Try.prog 19 #[.int .i64 (y + x + high), .int .i64 0] p'.w fun e w' => e = .returned (.agg #[.int .i64 (y + x + high), .int .i64 0]) ∧ Below p'.w.heap.size p'.w w' from fun p' => pen_to _ _ _)
                  have C3 := Lib.hid (show ∀ p' : OnW w12, Calls Try.prog 7 #[] p'.w fun e w' => e = .returned (.bool true) ∧ Below p'.w.heap.size p'.w w' from fun p' => mawake_any HH.out _)
                  have HX9 := Lib.hid (HX.out.below h12.1)
                  have HB := Lib.hid (below_then HB.out h12.1)
                  obtain ⟨k0, k1⟩ := OnW.of2 HX9.out
                  obtain ⟨j2, j3⟩ := OnW.of2 HE3.out
                  obtain ⟨d0, d1⟩ := OnW.of2 HPB.out
                  obtain ⟨b9, o9, z9, e9, hz9, hc9⟩ := ints_get HI3.out (show 0 < 1 by decide)
                  subst e9
                  obtain rfl : y + x = z9 := by injection hz9
                  rw [Nat.add_zero] at hc9
                  have d9 := OnW.cell hc9
                  have he := pn_same
                  clear hc9 hz9
                  go_wp2_with fail
                  refine wp_region_on (by kernel_rfl) (by kernel_rfl) ?_
                  repeat (go_big_quiet_step ((first
                      | (go_at_call 10; with_reducible exact Calls.on_of (C1.out _))
                      | (go_at_call 19; with_reducible exact Calls.on_of (C2.out _))
                      | (go_at_call 7; with_reducible exact Calls.on_of (C3.out _)))))
                  refine wpQuiet_nil ?_
                  intro w99 hw'
                  obtain ⟨⟨w', hOn⟩, hw''⟩ := hw'
                  obtain rfl : w99 = w' := hw''
                  have HB9 := Lib.hid (below_then HB.out hOn)
                  clear hOn k0 k1 j2 j3 d0 d1 d9
                  go_wp2_with fail
                  go_ret
                  exact ⟨rfl, HB9.out⟩
              · go_simp
                refine hK.out _ _ ⟨On.alloc h3.1 _, h3.2.alloc _⟩ (fun h4 => ?_)
                clear hK K
                try simp only [Act.put, List.getElem_toArray, List.getElem_cons_succ, List.getElem_cons_zero, List.setIfInBounds_toArray, List.set_cons_zero, List.set_cons_succ]
                have hbz : Below w3.heap.size w3 (w3.alloc (.cells #[.int .i64 0, .int .i64 0] 23)) := (Below.refl _ _).alloc (Nat.le_refl _) _
                have HPB := Lib.hid (Box.new2 w3 (.int .i64 0) (.int .i64 0) 23)
                have HPL := Lib.hid (show BP < w3.heap.size from h3.2.lt)
                have HOo := Lib.hid (owns_below HOo.out hbz)
                have HR5 := Lib.hid (HR5.out.below hbz)
                clear hbz
                generalize w3.heap.size = BBa at HPB HPL ⊢
                generalize w3.alloc (.cells #[.int .i64 0, .int .i64 0] 23) = w4 at h4 HOo HR5 HPB ⊢
                refine wpAnyH_ready (rs := [5]) (by kernel_rfl) (by simp) ?_
                refine AllReadyH.cons rfl (fun K hK => ?_) AllReadyH.nil
                go_simp
                refine (HH.out.run E1.out E2.out HY.out HM.out N1.out (by omega) HR5.out).mono ?_
                rintro e w5 ⟨A6a, n6, c6a, rfl, hn6, hI6, hb6, hf6⟩
                obtain rfl : n6 = 1 := hn6
                refine hK.out _ _ ⟨On.step h4.1 hb6, h4.2.below hb6⟩ (fun h5 => ?_)
                clear hK K
                try simp only [Act.put, List.getElem_toArray, List.getElem_cons_succ, List.getElem_cons_zero, List.setIfInBounds_toArray, List.set_cons_zero, List.set_cons_succ]
                have HF3 := Lib.hid (show ∀ q, A6a = some q → BP < q.block from fun q e => Nat.lt_of_lt_of_le h4.2.lt (hf6 q e))
                have HNI := Lib.hid (show ∀ q, A6a = some q → q.block ≠ BBa from fun q e => Nat.ne_of_gt (Nat.lt_of_lt_of_le HPB.out.lt (hf6 q e)))
                have HOo := Lib.hid (owns_below HOo.out hb6)
                have HPB := Lib.hid (HPB.out.below hb6)
                have HI5 := Lib.hid hI6
                clear hI6 hb6 hf6
                refine wpAnyH_take (i := 6) (v := ?_) rfl (by kernel_rfl) (by kernel_rfl) (by kernel_rfl) (fun _ _ _ h => h) (Or.inl ⟨by rfl, ?_⟩) h5 ?_
                rotate_left
                · intro w hSw; obtain ⟨hSw, hSp⟩ := hSw; obtain ⟨⟨g0, g1, g2⟩, _⟩ := hSp.of3; go_simp; with_reducible rfl
                try simp only [Act.put, List.getElem_toArray, List.getElem_cons_succ, List.getElem_cons_zero, List.setIfInBounds_toArray, List.set_cons_zero, List.set_cons_succ]
                refine wpAnyH_take (i := 7) (v := ?_) rfl (by kernel_rfl) (by kernel_rfl) (by kernel_rfl) (fun _ _ _ h => h) (Or.inl ⟨by rfl, ?_⟩) h5 ?_
                rotate_left
                · intro w hSw; obtain ⟨hSw, hSp⟩ := hSw; obtain ⟨⟨g0, g1, g2⟩, _⟩ := hSp.of3; go_simp; with_reducible rfl
                try simp only [Act.put, List.getElem_toArray, List.getElem_cons_succ, List.getElem_cons_zero, List.setIfInBounds_toArray, List.set_cons_zero, List.set_cons_succ]
                refine wpAnyH_take (i := 8) (v := ?_) rfl (by kernel_rfl) (by kernel_rfl) (by kernel_rfl) (fun _ _ _ h => h) (Or.inl ⟨by rfl, ?_⟩) h5 ?_
                rotate_left
                · intro w hSw; obtain ⟨hSw, hSp⟩ := hSw; obtain ⟨⟨g0, g1, g2⟩, _⟩ := hSp.of3; go_simp; with_reducible rfl
                try simp only [Act.put, List.getElem_toArray, List.getElem_cons_succ, List.getElem_cons_zero, List.setIfInBounds_toArray, List.set_cons_zero, List.set_cons_succ]
                refine wpAnyH_ready (rs := [10]) (by kernel_rfl) (by simp) ?_
                refine AllReadyH.cons rfl (fun K hK => ?_) AllReadyH.nil
                obtain ⟨d0, d1, d2, d3, d4⟩ := HPB.out.of2
                go_simp
                refine hK.out _ _ ⟨On.set (On.set h5.1 (by have := HPL.out; have := HVB.out; omega) _) (by have := HPL.out; have := HVB.out; omega) _, (h5.2.set_other (m := BBa) (by have := HPL.out; omega) 0 _).set_other (m := BBa) (by have := HPL.out; omega) 1 _⟩ (fun h6 => ?_)
                clear hK K d0 d1 d2 d3 d4
                try simp only [Act.put, List.getElem_toArray, List.getElem_cons_succ, List.getElem_cons_zero, List.setIfInBounds_toArray, List.set_cons_zero, List.set_cons_succ]
                have HPB := Lib.hid (show Box ((w5.setCell ⟨BBa, 0, none⟩ (.int .i64 (y + x + high))).setCell ⟨BBa, 1, none⟩ (.int .i64 0)) BBa [.int .i64 (y + x + high), .int .i64 0] from (HPB.out.set 0 (.int .i64 (y + x + high)) (by simp)).set 1 (.int .i64 0) (by simp))
                have HI5 := Lib.hid (ints_set (ints_set HI5.out HNI.out 0 (.int .i64 (y + x + high))) HNI.out 1 (.int .i64 0))
                have HOo := Lib.hid (owns_off13 (owns_off13 HOo.out (m := BBa) (fun r e => by have := HLT2.out r e; have := HPL.out; omega) 0 (.int .i64 (y + x + high))) (m := BBa) (fun r e => by have := HLT2.out r e; have := HPL.out; omega) 1 (.int .i64 0))
                generalize (w5.setCell ⟨BBa, 0, none⟩ (.int .i64 (y + x + high))).setCell ⟨BBa, 1, none⟩ (.int .i64 0) = w6 at h6 HOo HPB HI5 ⊢
                refine wpAnyH_take (i := 11) (v := ?_) rfl (by kernel_rfl) (by kernel_rfl) (by kernel_rfl) (fun _ _ _ h => h) (Or.inl ⟨by rfl, ?_⟩) h6 ?_
                rotate_left
                · intro w hSw; obtain ⟨hSw, hSp⟩ := hSw; obtain ⟨⟨g0, g1, g2⟩, _⟩ := hSp.of3; go_simp; with_reducible rfl
                try simp only [Act.put, List.getElem_toArray, List.getElem_cons_succ, List.getElem_cons_zero, List.setIfInBounds_toArray, List.set_cons_zero, List.set_cons_succ]
                refine wpAnyH_done (by kernel_rfl) ?_ _
                have HE3 := Lib.hid HPB.out
                have HI3 := Lib.hid HI5.out
                have HOl := Lib.hid HOo.out
                have HPLa := Lib.hid HPL.out
                clear HPB HI5 HOo HPL HNI
                go_wp2_with fail
                refine Go.wp_region_held_drew (S := fun W' => On V W' ∧ Box W' BP [.int .i64 4, .int .i64 high, .int .i64 0]) (by kernel_rfl) ⟨h6.1.drew, h6.2.drew⟩ (fun h7 => ?_)
                show wpAnyH _ _ _ _ _ 12 (Array.replicate 12 false) _ _
                have hbz : Below w6.heap.size w6 w6.drew := (Below.refl _ _).drew
                have HOl := Lib.hid (owns_below HOl.out hbz)
                have HE3 := Lib.hid (HE3.out.below hbz)
                have HI3 := Lib.hid (ints_on HI3.out hbz)
                clear hbz
                generalize w6.drew = w7 at h7 HOl HE3 HI3 ⊢
                refine wpAnyH_take (i := 0) (v := ?_) rfl (by kernel_rfl) (by kernel_rfl) (by kernel_rfl) (fun _ _ _ h => h) (Or.inl ⟨by rfl, ?_⟩) h7 ?_
                rotate_left
                · intro w hSw; obtain ⟨hSw, hSp⟩ := hSw; obtain ⟨⟨g0, g1, g2⟩, _⟩ := hSp.of3; go_simp; with_reducible rfl
                try simp only [Act.put, List.getElem_toArray, List.getElem_cons_succ, List.getElem_cons_zero, List.setIfInBounds_toArray, List.set_cons_zero, List.set_cons_succ]
                refine wpAnyH_take (i := 1) (v := ?_) rfl (by kernel_rfl) (by kernel_rfl) (by kernel_rfl) (fun _ _ _ h => h) (Or.inl ⟨by rfl, ?_⟩) h7 ?_
                rotate_left
                · intro w hSw; obtain ⟨hSw, hSp⟩ := hSw; obtain ⟨⟨g0, g1, g2⟩, _⟩ := hSp.of3; go_simp; with_reducible rfl
                try simp only [Act.put, List.getElem_toArray, List.getElem_cons_succ, List.getElem_cons_zero, List.setIfInBounds_toArray, List.set_cons_zero, List.set_cons_succ]
                refine wpAnyH_take (i := 2) (v := ?_) rfl (by kernel_rfl) (by kernel_rfl) (by kernel_rfl) (fun _ _ _ h => h) (Or.inl ⟨by rfl, ?_⟩) h7 ?_
                rotate_left
                · intro w hSw; obtain ⟨hSw, hSp⟩ := hSw; obtain ⟨⟨g0, g1, g2⟩, _⟩ := hSp.of3; go_simp; with_reducible rfl
                try simp only [Act.put, List.getElem_toArray, List.getElem_cons_succ, List.getElem_cons_zero, List.setIfInBounds_toArray, List.set_cons_zero, List.set_cons_succ]
                refine wpAnyH_ready (rs := [3, 9]) (by kernel_rfl) (by simp) ?_
                refine AllReadyH.cons rfl (fun K hK => ?_) (AllReadyH.cons rfl (fun K hK => ?_) AllReadyH.nil)
                · go_simp
                  refine hK.out _ _ ⟨On.alloc h7.1 _, h7.2.alloc _⟩ (fun h8 => ?_)
                  clear hK K
                  try simp only [Act.put, List.getElem_toArray, List.getElem_cons_succ, List.getElem_cons_zero, List.setIfInBounds_toArray, List.set_cons_zero, List.set_cons_succ]
                  have hbz : Below w7.heap.size w7 (w7.alloc (.cells #[.int .i64 4, .int .i64 high, .int .i64 0] 33)) := (Below.refl _ _).alloc (Nat.le_refl _) _
                  have HCS := Lib.hid (cells_st w7 33 4 high 0)
                  have HOl := Lib.hid (owns_below HOl.out hbz)
                  have HE3 := Lib.hid (HE3.out.below hbz)
                  have HI3 := Lib.hid (ints_on HI3.out hbz)
                  clear hbz
                  generalize w7.heap.size = BS at HCS ⊢
                  generalize w7.alloc (.cells #[.int .i64 4, .int .i64 high, .int .i64 0] 33) = w8 at h8 HOl HE3 HI3 HCS ⊢
                  refine wpAnyH_ready (rs := [4, 9]) (by kernel_rfl) (by simp) ?_
                  refine AllReadyH.cons rfl (fun K hK => ?_) (AllReadyH.cons rfl (fun K hK => ?_) AllReadyH.nil)
                  · refine step_append_cells _ rfl (.tmp 88) (.tmp 90) _ rfl V.heap.size 33 i0 (.agg #[.int .i64 0, .int .i64 0, .int .i64 0]) 3 24 Try.underlying24 hi0 hz0 hz1 hz2 rfl (by decide) (.slice A2 k c2) k _ rfl HOl.out _ 1 1 _ rfl HCS.out (encSt_one ⟨_, _, _⟩) (by unfold maxLen; omega) (by omega) (Below.size h8.1) ?_
                    intro A5 c5 w9 hown5 hg5
                    refine hK.out _ _ ⟨Below.grown h8.1 hg5 (Below.size h8.1) (fun r e => owns_block HOl.out r e), h8.2.grown hg5 (fun r e => Nat.ne_of_lt (HLT2.out r e))⟩ (fun h9 => ?_)
                    clear hK K
                    try simp only [Act.put, List.getElem_toArray, List.getElem_cons_succ, List.getElem_cons_zero, List.setIfInBounds_toArray, List.set_cons_zero, List.set_cons_succ]
                    have HR5 := Lib.hid (ownsRow_rows (enc := encSt) (zs := p2 ++ [⟨4, high, 0⟩]) encSt_len (by decide) (by rw [List.flatMap_append]; exact hown5))
                    have HE3 := Lib.hid (HE3.out.grown hg5 (fun r e => by have := HLT2.out r e; have := HPLa.out; omega))
                    have HI3 := Lib.hid (ints_grown HI3.out hg5 (fun q e r e2 => by have := HLT2.out r e2; have := HF3.out q e; omega))
                    clear hown5 hg5
                    refine wpAnyH_ready (rs := [5, 9]) (by kernel_rfl) (by simp) ?_
                    refine AllReadyH.cons rfl (fun K hK => ?_) (AllReadyH.cons rfl (fun K hK => ?_) AllReadyH.nil)
                    · go_simp
                      refine (HH.out.run E3.out E4.out HY.out HM.out N2.out (by omega) HR5.out).mono ?_
                      rintro e w10 ⟨A6b, n6, c6b, rfl, hn6, hI6, hb6, hf6⟩
                      obtain rfl : n6 = 1 := hn6
                      refine hK.out _ _ ⟨On.step h9.1 hb6, h9.2.below hb6⟩ (fun h10 => ?_)
                      clear hK K
                      try simp only [Act.put, List.getElem_toArray, List.getElem_cons_succ, List.getElem_cons_zero, List.setIfInBounds_toArray, List.set_cons_zero, List.set_cons_succ]
                      have HF4 := Lib.hid (show ∀ q, A6b = some q → BP < q.block from fun q e => Nat.lt_of_lt_of_le h9.2.lt (hf6 q e))
                      have HE3 := Lib.hid (HE3.out.below hb6)
                      have HI3 := Lib.hid (ints_on HI3.out hb6)
                      have HI5 := Lib.hid hI6
                      clear hI6 hb6 hf6
                      refine wpAnyH_take (i := 6) (v := ?_) rfl (by kernel_rfl) (by kernel_rfl) (by kernel_rfl) (fun _ _ _ h => h) (Or.inl ⟨by rfl, ?_⟩) h10 ?_
                      rotate_left
                      · intro w hSw; obtain ⟨hSw, hSp⟩ := hSw; obtain ⟨⟨g0, g1, g2⟩, _⟩ := hSp.of3; go_simp; with_reducible rfl
                      try simp only [Act.put, List.getElem_toArray, List.getElem_cons_succ, List.getElem_cons_zero, List.setIfInBounds_toArray, List.set_cons_zero, List.set_cons_succ]
                      refine wpAnyH_take (i := 7) (v := ?_) rfl (by kernel_rfl) (by kernel_rfl) (by kernel_rfl) (fun _ _ _ h => h) (Or.inl ⟨by rfl, ?_⟩) h10 ?_
                      rotate_left
                      · intro w hSw; obtain ⟨hSw, hSp⟩ := hSw; obtain ⟨⟨g0, g1, g2⟩, _⟩ := hSp.of3; go_simp; with_reducible rfl
                      try simp only [Act.put, List.getElem_toArray, List.getElem_cons_succ, List.getElem_cons_zero, List.setIfInBounds_toArray, List.set_cons_zero, List.set_cons_succ]
                      refine wpAnyH_take (i := 8) (v := ?_) rfl (by kernel_rfl) (by kernel_rfl) (by kernel_rfl) (fun _ _ _ h => h) (Or.inl ⟨by rfl, ?_⟩) h10 ?_
                      rotate_left
                      · intro w hSw; obtain ⟨hSw, hSp⟩ := hSw; obtain ⟨⟨g0, g1, g2⟩, _⟩ := hSp.of3; go_simp; with_reducible rfl
                      try simp only [Act.put, List.getElem_toArray, List.getElem_cons_succ, List.getElem_cons_zero, List.setIfInBounds_toArray, List.set_cons_zero, List.set_cons_succ]
                      refine wpAnyH_ready (rs := [9]) (by kernel_rfl) (by simp) ?_
                      refine AllReadyH.cons rfl (fun K hK => ?_) AllReadyH.nil
                      go_simp
                      refine hK.out _ _ ⟨On.alloc h10.1 _, h10.2.alloc _⟩ (fun h11 => ?_)
                      clear hK K
                      try simp only [Act.put, List.getElem_toArray, List.getElem_cons_succ, List.getElem_cons_zero, List.setIfInBounds_toArray, List.set_cons_zero, List.set_cons_succ]
                      have hbz : Below w10.heap.size w10 (w10.alloc (.cells #[.int .i64 0, .int .i64 0] 23)) := (Below.refl _ _).alloc (Nat.le_refl _) _
                      have HPB := Lib.hid (Box.new2 w10 (.int .i64 0) (.int .i64 0) 23)
                      have HPL := Lib.hid (show BP < w10.heap.size from h10.2.lt)
                      have HNI := Lib.hid (show ∀ q, A6b = some q → q.block ≠ w10.heap.size from fun q e => Nat.ne_of_lt (ints_lt HI5.out (by decide) q e))
                      have HBB := Lib.hid (show BBa ≠ w10.heap.size from Nat.ne_of_lt HE3.out.lt)
                      have HN3 := Lib.hid (show ∀ q, A6a = some q → q.block ≠ w10.heap.size from fun q e => Nat.ne_of_lt (ints_lt HI3.out (by decide) q e))
                      have HE3 := Lib.hid (HE3.out.below hbz)
                      have HI3 := Lib.hid (ints_on HI3.out hbz)
                      have HI5 := Lib.hid (ints_on HI5.out hbz)
                      clear hbz
                      generalize w10.heap.size = BBb at HPB HPL HNI HN3 HBB ⊢
                      generalize w10.alloc (.cells #[.int .i64 0, .int .i64 0] 23) = w11 at h11 HE3 HI3 HI5 HPB ⊢
                      refine wpAnyH_ready (rs := [10]) (by kernel_rfl) (by simp) ?_
                      refine AllReadyH.cons rfl (fun K hK => ?_) AllReadyH.nil
                      obtain ⟨d0, d1, d2, d3, d4⟩ := HPB.out.of2
                      go_simp
                      refine hK.out _ _ ⟨On.set (On.set h11.1 (by have := HPL.out; have := HVB.out; omega) _) (by have := HPL.out; have := HVB.out; omega) _, (h11.2.set_other (m := BBb) (by have := HPL.out; omega) 0 _).set_other (m := BBb) (by have := HPL.out; omega) 1 _⟩ (fun h12 => ?_)
                      clear hK K d0 d1 d2 d3 d4
                      try simp only [Act.put, List.getElem_toArray, List.getElem_cons_succ, List.getElem_cons_zero, List.setIfInBounds_toArray, List.set_cons_zero, List.set_cons_succ]
                      have HPB := Lib.hid (show Box ((w11.setCell ⟨BBb, 0, none⟩ (.int .i64 (y + x + high))).setCell ⟨BBb, 1, none⟩ (.int .i64 0)) BBb [.int .i64 (y + x + high), .int .i64 0] from (HPB.out.set 0 (.int .i64 (y + x + high)) (by simp)).set 1 (.int .i64 0) (by simp))
                      have HI5 := Lib.hid (ints_set (ints_set HI5.out HNI.out 0 (.int .i64 (y + x + high))) HNI.out 1 (.int .i64 0))
                      have HE3 := Lib.hid ((HE3.out.set_other (m := BBb) HBB.out.symm 0 (.int .i64 (y + x + high))).set_other (m := BBb) HBB.out.symm 1 (.int .i64 0))
                      have HI3 := Lib.hid (ints_set (ints_set HI3.out HN3.out 0 (.int .i64 (y + x + high))) HN3.out 1 (.int .i64 0))
                      generalize (w11.setCell ⟨BBb, 0, none⟩ (.int .i64 (y + x + high))).setCell ⟨BBb, 1, none⟩ (.int .i64 0) = w12 at h12 HE3 HI3 HI5 HPB ⊢
                      refine wpAnyH_take (i := 11) (v := ?_) rfl (by kernel_rfl) (by kernel_rfl) (by kernel_rfl) (fun _ _ _ h => h) (Or.inl ⟨by rfl, ?_⟩) h12 ?_
                      rotate_left
                      · intro w hSw; obtain ⟨hSw, hSp⟩ := hSw; obtain ⟨⟨g0, g1, g2⟩, _⟩ := hSp.of3; go_simp; with_reducible rfl
                      try simp only [Act.put, List.getElem_toArray, List.getElem_cons_succ, List.getElem_cons_zero, List.setIfInBounds_toArray, List.set_cons_zero, List.set_cons_succ]
                      refine wpAnyH_done (by kernel_rfl) ?_ _
                      have C1 := Lib.hid (show ∀ p' : OnW w12, Calls Try.prog 10 #[.slice A6a 1 c6a, .slice A6b 1 c6b] p'.w fun e w' => e = .returned (.bool true) ∧ Below p'.w.heap.size p'.w w' from fun p' => rnumbers_to (v := true) (by simp) (ints_on HI3.out p'.h) (ints_on HI5.out p'.h))
                      have C2 := Lib.hid (show ∀ p' : OnW w12, Calls Try.prog 19 #[.int .i64 (y + x + high), .int .i64 0] p'.w fun e w' => e = .returned (.agg #[.int .i64 (y + x + high), .int .i64 0]) ∧ Below p'.w.heap.size p'.w w' from fun p' => pen_to _ _ _)
                      have C3 := Lib.hid (show ∀ p' : OnW w12, Calls Try.prog 7 #[] p'.w fun e w' => e = .returned (.bool true) ∧ Below p'.w.heap.size p'.w w' from fun p' => mawake_any HH.out _)
                      have HX9 := Lib.hid (HX.out.below h12.1)
                      have HB := Lib.hid (below_then HB.out h12.1)
                      obtain ⟨k0, k1⟩ := OnW.of2 HX9.out
                      obtain ⟨j2, j3⟩ := OnW.of2 HE3.out
                      obtain ⟨d0, d1⟩ := OnW.of2 HPB.out
                      obtain ⟨b9, o9, z9, e9, hz9, hc9⟩ := ints_get HI3.out (show 0 < 1 by decide)
                      subst e9
                      obtain rfl : y + x = z9 := by injection hz9
                      rw [Nat.add_zero] at hc9
                      have d9 := OnW.cell hc9
                      have he := pn_same
                      clear hc9 hz9
                      go_wp2_with fail
                      refine wp_region_on (by kernel_rfl) (by kernel_rfl) ?_
                      repeat (go_big_quiet_step ((first
                          | (go_at_call 10; with_reducible exact Calls.on_of (C1.out _))
                          | (go_at_call 19; with_reducible exact Calls.on_of (C2.out _))
                          | (go_at_call 7; with_reducible exact Calls.on_of (C3.out _)))))
                      refine wpQuiet_nil ?_
                      intro w99 hw'
                      obtain ⟨⟨w', hOn⟩, hw''⟩ := hw'
                      obtain rfl : w99 = w' := hw''
                      have HB9 := Lib.hid (below_then HB.out hOn)
                      clear hOn k0 k1 j2 j3 d0 d1 d9
                      go_wp2_with fail
                      go_ret
                      exact ⟨rfl, HB9.out⟩
                    · go_simp
                      refine hK.out _ _ ⟨On.alloc h9.1 _, h9.2.alloc _⟩ (fun h10 => ?_)
                      clear hK K
                      try simp only [Act.put, List.getElem_toArray, List.getElem_cons_succ, List.getElem_cons_zero, List.setIfInBounds_toArray, List.set_cons_zero, List.set_cons_succ]
                      have hbz : Below w9.heap.size w9 (w9.alloc (.cells #[.int .i64 0, .int .i64 0] 23)) := (Below.refl _ _).alloc (Nat.le_refl _) _
                      have HPB := Lib.hid (Box.new2 w9 (.int .i64 0) (.int .i64 0) 23)
                      have HPL := Lib.hid (show BP < w9.heap.size from h9.2.lt)
                      have HBB := Lib.hid (show BBa ≠ w9.heap.size from Nat.ne_of_lt HE3.out.lt)
                      have HN3 := Lib.hid (show ∀ q, A6a = some q → q.block ≠ w9.heap.size from fun q e => Nat.ne_of_lt (ints_lt HI3.out (by decide) q e))
                      have HE3 := Lib.hid (HE3.out.below hbz)
                      have HI3 := Lib.hid (ints_on HI3.out hbz)
                      have HR5 := Lib.hid (HR5.out.below hbz)
                      clear hbz
                      generalize w9.heap.size = BBb at HPB HPL HN3 HBB ⊢
                      generalize w9.alloc (.cells #[.int .i64 0, .int .i64 0] 23) = w10 at h10 HE3 HI3 HR5 HPB ⊢
                      refine wpAnyH_ready (rs := [5]) (by kernel_rfl) (by simp) ?_
                      refine AllReadyH.cons rfl (fun K hK => ?_) AllReadyH.nil
                      go_simp
                      refine (HH.out.run E3.out E4.out HY.out HM.out N2.out (by omega) HR5.out).mono ?_
                      rintro e w11 ⟨A6b, n6, c6b, rfl, hn6, hI6, hb6, hf6⟩
                      obtain rfl : n6 = 1 := hn6
                      refine hK.out _ _ ⟨On.step h10.1 hb6, h10.2.below hb6⟩ (fun h11 => ?_)
                      clear hK K
                      try simp only [Act.put, List.getElem_toArray, List.getElem_cons_succ, List.getElem_cons_zero, List.setIfInBounds_toArray, List.set_cons_zero, List.set_cons_succ]
                      have HF4 := Lib.hid (show ∀ q, A6b = some q → BP < q.block from fun q e => Nat.lt_of_lt_of_le h10.2.lt (hf6 q e))
                      have HNI := Lib.hid (show ∀ q, A6b = some q → q.block ≠ BBb from fun q e => Nat.ne_of_gt (Nat.lt_of_lt_of_le HPB.out.lt (hf6 q e)))
                      have HE3 := Lib.hid (HE3.out.below hb6)
                      have HI3 := Lib.hid (ints_on HI3.out hb6)
                      have HPB := Lib.hid (HPB.out.below hb6)
                      have HI5 := Lib.hid hI6
                      clear hI6 hb6 hf6
                      refine wpAnyH_take (i := 6) (v := ?_) rfl (by kernel_rfl) (by kernel_rfl) (by kernel_rfl) (fun _ _ _ h => h) (Or.inl ⟨by rfl, ?_⟩) h11 ?_
                      rotate_left
                      · intro w hSw; obtain ⟨hSw, hSp⟩ := hSw; obtain ⟨⟨g0, g1, g2⟩, _⟩ := hSp.of3; go_simp; with_reducible rfl
                      try simp only [Act.put, List.getElem_toArray, List.getElem_cons_succ, List.getElem_cons_zero, List.setIfInBounds_toArray, List.set_cons_zero, List.set_cons_succ]
                      refine wpAnyH_take (i := 7) (v := ?_) rfl (by kernel_rfl) (by kernel_rfl) (by kernel_rfl) (fun _ _ _ h => h) (Or.inl ⟨by rfl, ?_⟩) h11 ?_
                      rotate_left
                      · intro w hSw; obtain ⟨hSw, hSp⟩ := hSw; obtain ⟨⟨g0, g1, g2⟩, _⟩ := hSp.of3; go_simp; with_reducible rfl
                      try simp only [Act.put, List.getElem_toArray, List.getElem_cons_succ, List.getElem_cons_zero, List.setIfInBounds_toArray, List.set_cons_zero, List.set_cons_succ]
                      refine wpAnyH_take (i := 8) (v := ?_) rfl (by kernel_rfl) (by kernel_rfl) (by kernel_rfl) (fun _ _ _ h => h) (Or.inl ⟨by rfl, ?_⟩) h11 ?_
                      rotate_left
                      · intro w hSw; obtain ⟨hSw, hSp⟩ := hSw; obtain ⟨⟨g0, g1, g2⟩, _⟩ := hSp.of3; go_simp; with_reducible rfl
                      try simp only [Act.put, List.getElem_toArray, List.getElem_cons_succ, List.getElem_cons_zero, List.setIfInBounds_toArray, List.set_cons_zero, List.set_cons_succ]
                      refine wpAnyH_ready (rs := [10]) (by kernel_rfl) (by simp) ?_
                      refine AllReadyH.cons rfl (fun K hK => ?_) AllReadyH.nil
                      obtain ⟨d0, d1, d2, d3, d4⟩ := HPB.out.of2
                      go_simp
                      refine hK.out _ _ ⟨On.set (On.set h11.1 (by have := HPL.out; have := HVB.out; omega) _) (by have := HPL.out; have := HVB.out; omega) _, (h11.2.set_other (m := BBb) (by have := HPL.out; omega) 0 _).set_other (m := BBb) (by have := HPL.out; omega) 1 _⟩ (fun h12 => ?_)
                      clear hK K d0 d1 d2 d3 d4
                      try simp only [Act.put, List.getElem_toArray, List.getElem_cons_succ, List.getElem_cons_zero, List.setIfInBounds_toArray, List.set_cons_zero, List.set_cons_succ]
                      have HPB := Lib.hid (show Box ((w11.setCell ⟨BBb, 0, none⟩ (.int .i64 (y + x + high))).setCell ⟨BBb, 1, none⟩ (.int .i64 0)) BBb [.int .i64 (y + x + high), .int .i64 0] from (HPB.out.set 0 (.int .i64 (y + x + high)) (by simp)).set 1 (.int .i64 0) (by simp))
                      have HI5 := Lib.hid (ints_set (ints_set HI5.out HNI.out 0 (.int .i64 (y + x + high))) HNI.out 1 (.int .i64 0))
                      have HE3 := Lib.hid ((HE3.out.set_other (m := BBb) HBB.out.symm 0 (.int .i64 (y + x + high))).set_other (m := BBb) HBB.out.symm 1 (.int .i64 0))
                      have HI3 := Lib.hid (ints_set (ints_set HI3.out HN3.out 0 (.int .i64 (y + x + high))) HN3.out 1 (.int .i64 0))
                      generalize (w11.setCell ⟨BBb, 0, none⟩ (.int .i64 (y + x + high))).setCell ⟨BBb, 1, none⟩ (.int .i64 0) = w12 at h12 HE3 HI3 HPB HI5 ⊢
                      refine wpAnyH_take (i := 11) (v := ?_) rfl (by kernel_rfl) (by kernel_rfl) (by kernel_rfl) (fun _ _ _ h => h) (Or.inl ⟨by rfl, ?_⟩) h12 ?_
                      rotate_left
                      · intro w hSw; obtain ⟨hSw, hSp⟩ := hSw; obtain ⟨⟨g0, g1, g2⟩, _⟩ := hSp.of3; go_simp; with_reducible rfl
                      try simp only [Act.put, List.getElem_toArray, List.getElem_cons_succ, List.getElem_cons_zero, List.setIfInBounds_toArray, List.set_cons_zero, List.set_cons_succ]
                      refine wpAnyH_done (by kernel_rfl) ?_ _
                      have C1 := Lib.hid (show ∀ p' : OnW w12, Calls Try.prog 10 #[.slice A6a 1 c6a, .slice A6b 1 c6b] p'.w fun e w' => e = .returned (.bool true) ∧ Below p'.w.heap.size p'.w w' from fun p' => rnumbers_to (v := true) (by simp) (ints_on HI3.out p'.h) (ints_on HI5.out p'.h))
                      have C2 := Lib.hid (show ∀ p' : OnW w12, Calls Try.prog 19 #[.int .i64 (y + x + high), .int .i64 0] p'.w fun e w' => e = .returned (.agg #[.int .i64 (y + x + high), .int .i64 0]) ∧ Below p'.w.heap.size p'.w w' from fun p' => pen_to _ _ _)
                      have C3 := Lib.hid (show ∀ p' : OnW w12, Calls Try.prog 7 #[] p'.w fun e w' => e = .returned (.bool true) ∧ Below p'.w.heap.size p'.w w' from fun p' => mawake_any HH.out _)
                      have HX9 := Lib.hid (HX.out.below h12.1)
                      have HB := Lib.hid (below_then HB.out h12.1)
                      obtain ⟨k0, k1⟩ := OnW.of2 HX9.out
                      obtain ⟨j2, j3⟩ := OnW.of2 HE3.out
                      obtain ⟨d0, d1⟩ := OnW.of2 HPB.out
                      obtain ⟨b9, o9, z9, e9, hz9, hc9⟩ := ints_get HI3.out (show 0 < 1 by decide)
                      subst e9
                      obtain rfl : y + x = z9 := by injection hz9
                      rw [Nat.add_zero] at hc9
                      have d9 := OnW.cell hc9
                      have he := pn_same
                      clear hc9 hz9
                      go_wp2_with fail
                      refine wp_region_on (by kernel_rfl) (by kernel_rfl) ?_
                      repeat (go_big_quiet_step ((first
                          | (go_at_call 10; with_reducible exact Calls.on_of (C1.out _))
                          | (go_at_call 19; with_reducible exact Calls.on_of (C2.out _))
                          | (go_at_call 7; with_reducible exact Calls.on_of (C3.out _)))))
                      refine wpQuiet_nil ?_
                      intro w99 hw'
                      obtain ⟨⟨w', hOn⟩, hw''⟩ := hw'
                      obtain rfl : w99 = w' := hw''
                      have HB9 := Lib.hid (below_then HB.out hOn)
                      clear hOn k0 k1 j2 j3 d0 d1 d9
                      go_wp2_with fail
                      go_ret
                      exact ⟨rfl, HB9.out⟩
                  · go_simp
                    refine hK.out _ _ ⟨On.alloc h8.1 _, h8.2.alloc _⟩ (fun h9 => ?_)
                    clear hK K
                    try simp only [Act.put, List.getElem_toArray, List.getElem_cons_succ, List.getElem_cons_zero, List.setIfInBounds_toArray, List.set_cons_zero, List.set_cons_succ]
                    have hbz : Below w8.heap.size w8 (w8.alloc (.cells #[.int .i64 0, .int .i64 0] 23)) := (Below.refl _ _).alloc (Nat.le_refl _) _
                    have HPB := Lib.hid (Box.new2 w8 (.int .i64 0) (.int .i64 0) 23)
                    have HPL := Lib.hid (show BP < w8.heap.size from h8.2.lt)
                    have HBB := Lib.hid (show BBa ≠ w8.heap.size from Nat.ne_of_lt HE3.out.lt)
                    have HN3 := Lib.hid (show ∀ q, A6a = some q → q.block ≠ w8.heap.size from fun q e => Nat.ne_of_lt (ints_lt HI3.out (by decide) q e))
                    have HOl := Lib.hid (owns_below HOl.out hbz)
                    have HE3 := Lib.hid (HE3.out.below hbz)
                    have HI3 := Lib.hid (ints_on HI3.out hbz)
                    have HCS := Lib.hid (HCS.out.below hbz rfl)
                    clear hbz
                    generalize w8.heap.size = BBb at HPB HPL HN3 HBB ⊢
                    generalize w8.alloc (.cells #[.int .i64 0, .int .i64 0] 23) = w9 at h9 HOl HE3 HI3 HCS HPB ⊢
                    refine wpAnyH_ready (rs := [4]) (by kernel_rfl) (by simp) ?_
                    refine AllReadyH.cons rfl (fun K hK => ?_) AllReadyH.nil
                    refine step_append_cells _ rfl (.tmp 88) (.tmp 90) _ rfl V.heap.size 33 i0 (.agg #[.int .i64 0, .int .i64 0, .int .i64 0]) 3 24 Try.underlying24 hi0 hz0 hz1 hz2 rfl (by decide) (.slice A2 k c2) k _ rfl HOl.out _ 1 1 _ rfl HCS.out (encSt_one ⟨_, _, _⟩) (by unfold maxLen; omega) (by omega) (Below.size h9.1) ?_
                    intro A5 c5 w10 hown5 hg5
                    refine hK.out _ _ ⟨Below.grown h9.1 hg5 (Below.size h9.1) (fun r e => owns_block HOl.out r e), h9.2.grown hg5 (fun r e => Nat.ne_of_lt (HLT2.out r e))⟩ (fun h10 => ?_)
                    clear hK K
                    try simp only [Act.put, List.getElem_toArray, List.getElem_cons_succ, List.getElem_cons_zero, List.setIfInBounds_toArray, List.set_cons_zero, List.set_cons_succ]
                    have HR5 := Lib.hid (ownsRow_rows (enc := encSt) (zs := p2 ++ [⟨4, high, 0⟩]) encSt_len (by decide) (by rw [List.flatMap_append]; exact hown5))
                    have HPB := Lib.hid (HPB.out.grown hg5 (fun r e => by have := HLT2.out r e; have := HPL.out; omega))
                    have HE3 := Lib.hid (HE3.out.grown hg5 (fun r e => by have := HLT2.out r e; have := HPLa.out; omega))
                    have HI3 := Lib.hid (ints_grown HI3.out hg5 (fun q e r e2 => by have := HLT2.out r e2; have := HF3.out q e; omega))
                    clear hown5 hg5
                    refine wpAnyH_ready (rs := [5]) (by kernel_rfl) (by simp) ?_
                    refine AllReadyH.cons rfl (fun K hK => ?_) AllReadyH.nil
                    go_simp
                    refine (HH.out.run E3.out E4.out HY.out HM.out N2.out (by omega) HR5.out).mono ?_
                    rintro e w11 ⟨A6b, n6, c6b, rfl, hn6, hI6, hb6, hf6⟩
                    obtain rfl : n6 = 1 := hn6
                    refine hK.out _ _ ⟨On.step h10.1 hb6, h10.2.below hb6⟩ (fun h11 => ?_)
                    clear hK K
                    try simp only [Act.put, List.getElem_toArray, List.getElem_cons_succ, List.getElem_cons_zero, List.setIfInBounds_toArray, List.set_cons_zero, List.set_cons_succ]
                    have HF4 := Lib.hid (show ∀ q, A6b = some q → BP < q.block from fun q e => Nat.lt_of_lt_of_le h10.2.lt (hf6 q e))
                    have HNI := Lib.hid (show ∀ q, A6b = some q → q.block ≠ BBb from fun q e => Nat.ne_of_gt (Nat.lt_of_lt_of_le HPB.out.lt (hf6 q e)))
                    have HE3 := Lib.hid (HE3.out.below hb6)
                    have HI3 := Lib.hid (ints_on HI3.out hb6)
                    have HPB := Lib.hid (HPB.out.below hb6)
                    have HI5 := Lib.hid hI6
                    clear hI6 hb6 hf6
                    refine wpAnyH_take (i := 6) (v := ?_) rfl (by kernel_rfl) (by kernel_rfl) (by kernel_rfl) (fun _ _ _ h => h) (Or.inl ⟨by rfl, ?_⟩) h11 ?_
                    rotate_left
                    · intro w hSw; obtain ⟨hSw, hSp⟩ := hSw; obtain ⟨⟨g0, g1, g2⟩, _⟩ := hSp.of3; go_simp; with_reducible rfl
                    try simp only [Act.put, List.getElem_toArray, List.getElem_cons_succ, List.getElem_cons_zero, List.setIfInBounds_toArray, List.set_cons_zero, List.set_cons_succ]
                    refine wpAnyH_take (i := 7) (v := ?_) rfl (by kernel_rfl) (by kernel_rfl) (by kernel_rfl) (fun _ _ _ h => h) (Or.inl ⟨by rfl, ?_⟩) h11 ?_
                    rotate_left
                    · intro w hSw; obtain ⟨hSw, hSp⟩ := hSw; obtain ⟨⟨g0, g1, g2⟩, _⟩ := hSp.of3; go_simp; with_reducible rfl
                    try simp only [Act.put, List.getElem_toArray, List.getElem_cons_succ, List.getElem_cons_zero, List.setIfInBounds_toArray, List.set_cons_zero, List.set_cons_succ]
                    refine wpAnyH_take (i := 8) (v := ?_) rfl (by kernel_rfl) (by kernel_rfl) (by kernel_rfl) (fun _ _ _ h => h) (Or.inl ⟨by rfl, ?_⟩) h11 ?_
                    rotate_left
                    · intro w hSw; obtain ⟨hSw, hSp⟩ := hSw; obtain ⟨⟨g0, g1, g2⟩, _⟩ := hSp.of3; go_simp; with_reducible rfl
                    try simp only [Act.put, List.getElem_toArray, List.getElem_cons_succ, List.getElem_cons_zero, List.setIfInBounds_toArray, List.set_cons_zero, List.set_cons_succ]
                    refine wpAnyH_ready (rs := [10]) (by kernel_rfl) (by simp) ?_
                    refine AllReadyH.cons rfl (fun K hK => ?_) AllReadyH.nil
                    obtain ⟨d0, d1, d2, d3, d4⟩ := HPB.out.of2
                    go_simp
                    refine hK.out _ _ ⟨On.set (On.set h11.1 (by have := HPL.out; have := HVB.out; omega) _) (by have := HPL.out; have := HVB.out; omega) _, (h11.2.set_other (m := BBb) (by have := HPL.out; omega) 0 _).set_other (m := BBb) (by have := HPL.out; omega) 1 _⟩ (fun h12 => ?_)
                    clear hK K d0 d1 d2 d3 d4
                    try simp only [Act.put, List.getElem_toArray, List.getElem_cons_succ, List.getElem_cons_zero, List.setIfInBounds_toArray, List.set_cons_zero, List.set_cons_succ]
                    have HPB := Lib.hid (show Box ((w11.setCell ⟨BBb, 0, none⟩ (.int .i64 (y + x + high))).setCell ⟨BBb, 1, none⟩ (.int .i64 0)) BBb [.int .i64 (y + x + high), .int .i64 0] from (HPB.out.set 0 (.int .i64 (y + x + high)) (by simp)).set 1 (.int .i64 0) (by simp))
                    have HI5 := Lib.hid (ints_set (ints_set HI5.out HNI.out 0 (.int .i64 (y + x + high))) HNI.out 1 (.int .i64 0))
                    have HE3 := Lib.hid ((HE3.out.set_other (m := BBb) HBB.out.symm 0 (.int .i64 (y + x + high))).set_other (m := BBb) HBB.out.symm 1 (.int .i64 0))
                    have HI3 := Lib.hid (ints_set (ints_set HI3.out HN3.out 0 (.int .i64 (y + x + high))) HN3.out 1 (.int .i64 0))
                    generalize (w11.setCell ⟨BBb, 0, none⟩ (.int .i64 (y + x + high))).setCell ⟨BBb, 1, none⟩ (.int .i64 0) = w12 at h12 HE3 HI3 HPB HI5 ⊢
                    refine wpAnyH_take (i := 11) (v := ?_) rfl (by kernel_rfl) (by kernel_rfl) (by kernel_rfl) (fun _ _ _ h => h) (Or.inl ⟨by rfl, ?_⟩) h12 ?_
                    rotate_left
                    · intro w hSw; obtain ⟨hSw, hSp⟩ := hSw; obtain ⟨⟨g0, g1, g2⟩, _⟩ := hSp.of3; go_simp; with_reducible rfl
                    try simp only [Act.put, List.getElem_toArray, List.getElem_cons_succ, List.getElem_cons_zero, List.setIfInBounds_toArray, List.set_cons_zero, List.set_cons_succ]
                    refine wpAnyH_done (by kernel_rfl) ?_ _
                    have C1 := Lib.hid (show ∀ p' : OnW w12, Calls Try.prog 10 #[.slice A6a 1 c6a, .slice A6b 1 c6b] p'.w fun e w' => e = .returned (.bool true) ∧ Below p'.w.heap.size p'.w w' from fun p' => rnumbers_to (v := true) (by simp) (ints_on HI3.out p'.h) (ints_on HI5.out p'.h))
                    have C2 := Lib.hid (show ∀ p' : OnW w12, Calls Try.prog 19 #[.int .i64 (y + x + high), .int .i64 0] p'.w fun e w' => e = .returned (.agg #[.int .i64 (y + x + high), .int .i64 0]) ∧ Below p'.w.heap.size p'.w w' from fun p' => pen_to _ _ _)
                    have C3 := Lib.hid (show ∀ p' : OnW w12, Calls Try.prog 7 #[] p'.w fun e w' => e = .returned (.bool true) ∧ Below p'.w.heap.size p'.w w' from fun p' => mawake_any HH.out _)
                    have HX9 := Lib.hid (HX.out.below h12.1)
                    have HB := Lib.hid (below_then HB.out h12.1)
                    obtain ⟨k0, k1⟩ := OnW.of2 HX9.out
                    obtain ⟨j2, j3⟩ := OnW.of2 HE3.out
                    obtain ⟨d0, d1⟩ := OnW.of2 HPB.out
                    obtain ⟨b9, o9, z9, e9, hz9, hc9⟩ := ints_get HI3.out (show 0 < 1 by decide)
                    subst e9
                    obtain rfl : y + x = z9 := by injection hz9
                    rw [Nat.add_zero] at hc9
                    have d9 := OnW.cell hc9
                    have he := pn_same
                    clear hc9 hz9
                    go_wp2_with fail
                    refine wp_region_on (by kernel_rfl) (by kernel_rfl) ?_
                    repeat (go_big_quiet_step ((first
                        | (go_at_call 10; with_reducible exact Calls.on_of (C1.out _))
                        | (go_at_call 19; with_reducible exact Calls.on_of (C2.out _))
                        | (go_at_call 7; with_reducible exact Calls.on_of (C3.out _)))))
                    refine wpQuiet_nil ?_
                    intro w99 hw'
                    obtain ⟨⟨w', hOn⟩, hw''⟩ := hw'
                    obtain rfl : w99 = w' := hw''
                    have HB9 := Lib.hid (below_then HB.out hOn)
                    clear hOn k0 k1 j2 j3 d0 d1 d9
                    go_wp2_with fail
                    go_ret
                    exact ⟨rfl, HB9.out⟩
                · go_simp
                  refine hK.out _ _ ⟨On.alloc h7.1 _, h7.2.alloc _⟩ (fun h8 => ?_)
                  clear hK K
                  try simp only [Act.put, List.getElem_toArray, List.getElem_cons_succ, List.getElem_cons_zero, List.setIfInBounds_toArray, List.set_cons_zero, List.set_cons_succ]
                  have hbz : Below w7.heap.size w7 (w7.alloc (.cells #[.int .i64 0, .int .i64 0] 23)) := (Below.refl _ _).alloc (Nat.le_refl _) _
                  have HPB := Lib.hid (Box.new2 w7 (.int .i64 0) (.int .i64 0) 23)
                  have HPL := Lib.hid (show BP < w7.heap.size from h7.2.lt)
                  have HBB := Lib.hid (show BBa ≠ w7.heap.size from Nat.ne_of_lt HE3.out.lt)
                  have HN3 := Lib.hid (show ∀ q, A6a = some q → q.block ≠ w7.heap.size from fun q e => Nat.ne_of_lt (ints_lt HI3.out (by decide) q e))
                  have HOl := Lib.hid (owns_below HOl.out hbz)
                  have HE3 := Lib.hid (HE3.out.below hbz)
                  have HI3 := Lib.hid (ints_on HI3.out hbz)
                  clear hbz
                  generalize w7.heap.size = BBb at HPB HPL HN3 HBB ⊢
                  generalize w7.alloc (.cells #[.int .i64 0, .int .i64 0] 23) = w8 at h8 HOl HE3 HI3 HPB ⊢
                  refine wpAnyH_ready (rs := [3]) (by kernel_rfl) (by simp) ?_
                  refine AllReadyH.cons rfl (fun K hK => ?_) AllReadyH.nil
                  go_simp
                  refine hK.out _ _ ⟨On.alloc h8.1 _, h8.2.alloc _⟩ (fun h9 => ?_)
                  clear hK K
                  try simp only [Act.put, List.getElem_toArray, List.getElem_cons_succ, List.getElem_cons_zero, List.setIfInBounds_toArray, List.set_cons_zero, List.set_cons_succ]
                  have hbz : Below w8.heap.size w8 (w8.alloc (.cells #[.int .i64 4, .int .i64 high, .int .i64 0] 33)) := (Below.refl _ _).alloc (Nat.le_refl _) _
                  have HCS := Lib.hid (cells_st w8 33 4 high 0)
                  have HOl := Lib.hid (owns_below HOl.out hbz)
                  have HE3 := Lib.hid (HE3.out.below hbz)
                  have HI3 := Lib.hid (ints_on HI3.out hbz)
                  have HPB := Lib.hid (HPB.out.below hbz)
                  clear hbz
                  generalize w8.heap.size = BS at HCS ⊢
                  generalize w8.alloc (.cells #[.int .i64 4, .int .i64 high, .int .i64 0] 33) = w9 at h9 HOl HE3 HI3 HPB HCS ⊢
                  refine wpAnyH_ready (rs := [4]) (by kernel_rfl) (by simp) ?_
                  refine AllReadyH.cons rfl (fun K hK => ?_) AllReadyH.nil
                  refine step_append_cells _ rfl (.tmp 88) (.tmp 90) _ rfl V.heap.size 33 i0 (.agg #[.int .i64 0, .int .i64 0, .int .i64 0]) 3 24 Try.underlying24 hi0 hz0 hz1 hz2 rfl (by decide) (.slice A2 k c2) k _ rfl HOl.out _ 1 1 _ rfl HCS.out (encSt_one ⟨_, _, _⟩) (by unfold maxLen; omega) (by omega) (Below.size h9.1) ?_
                  intro A5 c5 w10 hown5 hg5
                  refine hK.out _ _ ⟨Below.grown h9.1 hg5 (Below.size h9.1) (fun r e => owns_block HOl.out r e), h9.2.grown hg5 (fun r e => Nat.ne_of_lt (HLT2.out r e))⟩ (fun h10 => ?_)
                  clear hK K
                  try simp only [Act.put, List.getElem_toArray, List.getElem_cons_succ, List.getElem_cons_zero, List.setIfInBounds_toArray, List.set_cons_zero, List.set_cons_succ]
                  have HR5 := Lib.hid (ownsRow_rows (enc := encSt) (zs := p2 ++ [⟨4, high, 0⟩]) encSt_len (by decide) (by rw [List.flatMap_append]; exact hown5))
                  have HPB := Lib.hid (HPB.out.grown hg5 (fun r e => by have := HLT2.out r e; have := HPL.out; omega))
                  have HE3 := Lib.hid (HE3.out.grown hg5 (fun r e => by have := HLT2.out r e; have := HPLa.out; omega))
                  have HI3 := Lib.hid (ints_grown HI3.out hg5 (fun q e r e2 => by have := HLT2.out r e2; have := HF3.out q e; omega))
                  clear hown5 hg5
                  refine wpAnyH_ready (rs := [5]) (by kernel_rfl) (by simp) ?_
                  refine AllReadyH.cons rfl (fun K hK => ?_) AllReadyH.nil
                  go_simp
                  refine (HH.out.run E3.out E4.out HY.out HM.out N2.out (by omega) HR5.out).mono ?_
                  rintro e w11 ⟨A6b, n6, c6b, rfl, hn6, hI6, hb6, hf6⟩
                  obtain rfl : n6 = 1 := hn6
                  refine hK.out _ _ ⟨On.step h10.1 hb6, h10.2.below hb6⟩ (fun h11 => ?_)
                  clear hK K
                  try simp only [Act.put, List.getElem_toArray, List.getElem_cons_succ, List.getElem_cons_zero, List.setIfInBounds_toArray, List.set_cons_zero, List.set_cons_succ]
                  have HF4 := Lib.hid (show ∀ q, A6b = some q → BP < q.block from fun q e => Nat.lt_of_lt_of_le h10.2.lt (hf6 q e))
                  have HNI := Lib.hid (show ∀ q, A6b = some q → q.block ≠ BBb from fun q e => Nat.ne_of_gt (Nat.lt_of_lt_of_le HPB.out.lt (hf6 q e)))
                  have HE3 := Lib.hid (HE3.out.below hb6)
                  have HI3 := Lib.hid (ints_on HI3.out hb6)
                  have HPB := Lib.hid (HPB.out.below hb6)
                  have HI5 := Lib.hid hI6
                  clear hI6 hb6 hf6
                  refine wpAnyH_take (i := 6) (v := ?_) rfl (by kernel_rfl) (by kernel_rfl) (by kernel_rfl) (fun _ _ _ h => h) (Or.inl ⟨by rfl, ?_⟩) h11 ?_
                  rotate_left
                  · intro w hSw; obtain ⟨hSw, hSp⟩ := hSw; obtain ⟨⟨g0, g1, g2⟩, _⟩ := hSp.of3; go_simp; with_reducible rfl
                  try simp only [Act.put, List.getElem_toArray, List.getElem_cons_succ, List.getElem_cons_zero, List.setIfInBounds_toArray, List.set_cons_zero, List.set_cons_succ]
                  refine wpAnyH_take (i := 7) (v := ?_) rfl (by kernel_rfl) (by kernel_rfl) (by kernel_rfl) (fun _ _ _ h => h) (Or.inl ⟨by rfl, ?_⟩) h11 ?_
                  rotate_left
                  · intro w hSw; obtain ⟨hSw, hSp⟩ := hSw; obtain ⟨⟨g0, g1, g2⟩, _⟩ := hSp.of3; go_simp; with_reducible rfl
                  try simp only [Act.put, List.getElem_toArray, List.getElem_cons_succ, List.getElem_cons_zero, List.setIfInBounds_toArray, List.set_cons_zero, List.set_cons_succ]
                  refine wpAnyH_take (i := 8) (v := ?_) rfl (by kernel_rfl) (by kernel_rfl) (by kernel_rfl) (fun _ _ _ h => h) (Or.inl ⟨by rfl, ?_⟩) h11 ?_
                  rotate_left
                  · intro w hSw; obtain ⟨hSw, hSp⟩ := hSw; obtain ⟨⟨g0, g1, g2⟩, _⟩ := hSp.of3; go_simp; with_reducible rfl
                  try simp only [Act.put, List.getElem_toArray, List.getElem_cons_succ, List.getElem_cons_zero, List.setIfInBounds_toArray, List.set_cons_zero, List.set_cons_succ]
                  refine wpAnyH_ready (rs := [10]) (by kernel_rfl) (by simp) ?_
                  refine AllReadyH.cons rfl (fun K hK => ?_) AllReadyH.nil
                  obtain ⟨d0, d1, d2, d3, d4⟩ := HPB.out.of2
                  go_simp
                  refine hK.out _ _ ⟨On.set (On.set h11.1 (by have := HPL.out; have := HVB.out; omega) _) (by have := HPL.out; have := HVB.out; omega) _, (h11.2.set_other (m := BBb) (by have := HPL.out; omega) 0 _).set_other (m := BBb) (by have := HPL.out; omega) 1 _⟩ (fun h12 => ?_)
                  clear hK K d0 d1 d2 d3 d4
                  try simp only [Act.put, List.getElem_toArray, List.getElem_cons_succ, List.getElem_cons_zero, List.setIfInBounds_toArray, List.set_cons_zero, List.set_cons_succ]
                  have HPB := Lib.hid (show Box ((w11.setCell ⟨BBb, 0, none⟩ (.int .i64 (y + x + high))).setCell ⟨BBb, 1, none⟩ (.int .i64 0)) BBb [.int .i64 (y + x + high), .int .i64 0] from (HPB.out.set 0 (.int .i64 (y + x + high)) (by simp)).set 1 (.int .i64 0) (by simp))
                  have HI5 := Lib.hid (ints_set (ints_set HI5.out HNI.out 0 (.int .i64 (y + x + high))) HNI.out 1 (.int .i64 0))
                  have HE3 := Lib.hid ((HE3.out.set_other (m := BBb) HBB.out.symm 0 (.int .i64 (y + x + high))).set_other (m := BBb) HBB.out.symm 1 (.int .i64 0))
                  have HI3 := Lib.hid (ints_set (ints_set HI3.out HN3.out 0 (.int .i64 (y + x + high))) HN3.out 1 (.int .i64 0))
                  generalize (w11.setCell ⟨BBb, 0, none⟩ (.int .i64 (y + x + high))).setCell ⟨BBb, 1, none⟩ (.int .i64 0) = w12 at h12 HE3 HI3 HPB HI5 ⊢
                  refine wpAnyH_take (i := 11) (v := ?_) rfl (by kernel_rfl) (by kernel_rfl) (by kernel_rfl) (fun _ _ _ h => h) (Or.inl ⟨by rfl, ?_⟩) h12 ?_
                  rotate_left
                  · intro w hSw; obtain ⟨hSw, hSp⟩ := hSw; obtain ⟨⟨g0, g1, g2⟩, _⟩ := hSp.of3; go_simp; with_reducible rfl
                  try simp only [Act.put, List.getElem_toArray, List.getElem_cons_succ, List.getElem_cons_zero, List.setIfInBounds_toArray, List.set_cons_zero, List.set_cons_succ]
                  refine wpAnyH_done (by kernel_rfl) ?_ _
                  have C1 := Lib.hid (show ∀ p' : OnW w12, Calls Try.prog 10 #[.slice A6a 1 c6a, .slice A6b 1 c6b] p'.w fun e w' => e = .returned (.bool true) ∧ Below p'.w.heap.size p'.w w' from fun p' => rnumbers_to (v := true) (by simp) (ints_on HI3.out p'.h) (ints_on HI5.out p'.h))
                  have C2 := Lib.hid (show ∀ p' : OnW w12, Calls Try.prog 19 #[.int .i64 (y + x + high), .int .i64 0] p'.w fun e w' => e = .returned (.agg #[.int .i64 (y + x + high), .int .i64 0]) ∧ Below p'.w.heap.size p'.w w' from fun p' => pen_to _ _ _)
                  have C3 := Lib.hid (show ∀ p' : OnW w12, Calls Try.prog 7 #[] p'.w fun e w' => e = .returned (.bool true) ∧ Below p'.w.heap.size p'.w w' from fun p' => mawake_any HH.out _)
                  have HX9 := Lib.hid (HX.out.below h12.1)
                  have HB := Lib.hid (below_then HB.out h12.1)
                  obtain ⟨k0, k1⟩ := OnW.of2 HX9.out
                  obtain ⟨j2, j3⟩ := OnW.of2 HE3.out
                  obtain ⟨d0, d1⟩ := OnW.of2 HPB.out
                  obtain ⟨b9, o9, z9, e9, hz9, hc9⟩ := ints_get HI3.out (show 0 < 1 by decide)
                  subst e9
                  obtain rfl : y + x = z9 := by injection hz9
                  rw [Nat.add_zero] at hc9
                  have d9 := OnW.cell hc9
                  have he := pn_same
                  clear hc9 hz9
                  go_wp2_with fail
                  refine wp_region_on (by kernel_rfl) (by kernel_rfl) ?_
                  repeat (go_big_quiet_step ((first
                      | (go_at_call 10; with_reducible exact Calls.on_of (C1.out _))
                      | (go_at_call 19; with_reducible exact Calls.on_of (C2.out _))
                      | (go_at_call 7; with_reducible exact Calls.on_of (C3.out _)))))
                  refine wpQuiet_nil ?_
                  intro w99 hw'
                  obtain ⟨⟨w', hOn⟩, hw''⟩ := hw'
                  obtain rfl : w99 = w' := hw''
                  have HB9 := Lib.hid (below_then HB.out hOn)
                  clear hOn k0 k1 j2 j3 d0 d1 d9
                  go_wp2_with fail
                  go_ret
                  exact ⟨rfl, HB9.out⟩
            · go_simp
              refine hK.out _ _ ⟨On.alloc h2.1 _, h2.2.alloc _⟩ (fun h3 => ?_)
              clear hK K
              try simp only [Act.put, List.getElem_toArray, List.getElem_cons_succ, List.getElem_cons_zero, List.setIfInBounds_toArray, List.set_cons_zero, List.set_cons_succ]
              have hbz : Below w2.heap.size w2 (w2.alloc (.cells #[.int .i64 0, .int .i64 0] 23)) := (Below.refl _ _).alloc (Nat.le_refl _) _
              have HPB := Lib.hid (Box.new2 w2 (.int .i64 0) (.int .i64 0) 23)
              have HPL := Lib.hid (show BP < w2.heap.size from h2.2.lt)
              have HOl := Lib.hid (owns_below HOl.out hbz)
              have HOo := Lib.hid (owns_below HOo.out hbz)
              have HCS := Lib.hid (HCS.out.below hbz rfl)
              clear hbz
              generalize w2.heap.size = BBa at HPB HPL ⊢
              generalize w2.alloc (.cells #[.int .i64 0, .int .i64 0] 23) = w3 at h3 HOl HOo HCS HPB ⊢
              refine wpAnyH_ready (rs := [4]) (by kernel_rfl) (by simp) ?_
              refine AllReadyH.cons rfl (fun K hK => ?_) AllReadyH.nil
              refine step_append_cells _ rfl (.tmp 79) (.tmp 81) _ rfl V.heap.size 33 i0 (.agg #[.int .i64 0, .int .i64 0, .int .i64 0]) 3 24 Try.underlying24 hi0 hz0 hz1 hz2 rfl (by decide) (.slice A1 k c1) k _ rfl HOl.out _ 1 1 _ rfl HCS.out (encSt_one ⟨_, _, _⟩) (by unfold maxLen; omega) (by omega) (Below.size h3.1) ?_
              intro A5 c5 w4 hown5 hg5
              refine hK.out _ _ ⟨Below.grown h3.1 hg5 (Below.size h3.1) (fun r e => owns_block HOl.out r e), h3.2.grown hg5 (fun r e => Nat.ne_of_lt (HLT1.out r e))⟩ (fun h4 => ?_)
              clear hK K
              try simp only [Act.put, List.getElem_toArray, List.getElem_cons_succ, List.getElem_cons_zero, List.setIfInBounds_toArray, List.set_cons_zero, List.set_cons_succ]
              have HR5 := Lib.hid (ownsRow_rows (enc := encSt) (zs := p1 ++ [⟨4, high, 0⟩]) encSt_len (by decide) (by rw [List.flatMap_append]; exact hown5))
              have HOo := Lib.hid (owns_other HAP.out HOo.out hg5)
              have HPB := Lib.hid (HPB.out.grown hg5 (fun r e => by have := HLT1.out r e; have := HPL.out; omega))
              clear hown5 hg5
              refine wpAnyH_ready (rs := [5]) (by kernel_rfl) (by simp) ?_
              refine AllReadyH.cons rfl (fun K hK => ?_) AllReadyH.nil
              go_simp
              refine (HH.out.run E1.out E2.out HY.out HM.out N1.out (by omega) HR5.out).mono ?_
              rintro e w5 ⟨A6a, n6, c6a, rfl, hn6, hI6, hb6, hf6⟩
              obtain rfl : n6 = 1 := hn6
              refine hK.out _ _ ⟨On.step h4.1 hb6, h4.2.below hb6⟩ (fun h5 => ?_)
              clear hK K
              try simp only [Act.put, List.getElem_toArray, List.getElem_cons_succ, List.getElem_cons_zero, List.setIfInBounds_toArray, List.set_cons_zero, List.set_cons_succ]
              have HF3 := Lib.hid (show ∀ q, A6a = some q → BP < q.block from fun q e => Nat.lt_of_lt_of_le h4.2.lt (hf6 q e))
              have HNI := Lib.hid (show ∀ q, A6a = some q → q.block ≠ BBa from fun q e => Nat.ne_of_gt (Nat.lt_of_lt_of_le HPB.out.lt (hf6 q e)))
              have HOo := Lib.hid (owns_below HOo.out hb6)
              have HPB := Lib.hid (HPB.out.below hb6)
              have HI5 := Lib.hid hI6
              clear hI6 hb6 hf6
              refine wpAnyH_take (i := 6) (v := ?_) rfl (by kernel_rfl) (by kernel_rfl) (by kernel_rfl) (fun _ _ _ h => h) (Or.inl ⟨by rfl, ?_⟩) h5 ?_
              rotate_left
              · intro w hSw; obtain ⟨hSw, hSp⟩ := hSw; obtain ⟨⟨g0, g1, g2⟩, _⟩ := hSp.of3; go_simp; with_reducible rfl
              try simp only [Act.put, List.getElem_toArray, List.getElem_cons_succ, List.getElem_cons_zero, List.setIfInBounds_toArray, List.set_cons_zero, List.set_cons_succ]
              refine wpAnyH_take (i := 7) (v := ?_) rfl (by kernel_rfl) (by kernel_rfl) (by kernel_rfl) (fun _ _ _ h => h) (Or.inl ⟨by rfl, ?_⟩) h5 ?_
              rotate_left
              · intro w hSw; obtain ⟨hSw, hSp⟩ := hSw; obtain ⟨⟨g0, g1, g2⟩, _⟩ := hSp.of3; go_simp; with_reducible rfl
              try simp only [Act.put, List.getElem_toArray, List.getElem_cons_succ, List.getElem_cons_zero, List.setIfInBounds_toArray, List.set_cons_zero, List.set_cons_succ]
              refine wpAnyH_take (i := 8) (v := ?_) rfl (by kernel_rfl) (by kernel_rfl) (by kernel_rfl) (fun _ _ _ h => h) (Or.inl ⟨by rfl, ?_⟩) h5 ?_
              rotate_left
              · intro w hSw; obtain ⟨hSw, hSp⟩ := hSw; obtain ⟨⟨g0, g1, g2⟩, _⟩ := hSp.of3; go_simp; with_reducible rfl
              try simp only [Act.put, List.getElem_toArray, List.getElem_cons_succ, List.getElem_cons_zero, List.setIfInBounds_toArray, List.set_cons_zero, List.set_cons_succ]
              refine wpAnyH_ready (rs := [10]) (by kernel_rfl) (by simp) ?_
              refine AllReadyH.cons rfl (fun K hK => ?_) AllReadyH.nil
              obtain ⟨d0, d1, d2, d3, d4⟩ := HPB.out.of2
              go_simp
              refine hK.out _ _ ⟨On.set (On.set h5.1 (by have := HPL.out; have := HVB.out; omega) _) (by have := HPL.out; have := HVB.out; omega) _, (h5.2.set_other (m := BBa) (by have := HPL.out; omega) 0 _).set_other (m := BBa) (by have := HPL.out; omega) 1 _⟩ (fun h6 => ?_)
              clear hK K d0 d1 d2 d3 d4
              try simp only [Act.put, List.getElem_toArray, List.getElem_cons_succ, List.getElem_cons_zero, List.setIfInBounds_toArray, List.set_cons_zero, List.set_cons_succ]
              have HPB := Lib.hid (show Box ((w5.setCell ⟨BBa, 0, none⟩ (.int .i64 (y + x + high))).setCell ⟨BBa, 1, none⟩ (.int .i64 0)) BBa [.int .i64 (y + x + high), .int .i64 0] from (HPB.out.set 0 (.int .i64 (y + x + high)) (by simp)).set 1 (.int .i64 0) (by simp))
              have HI5 := Lib.hid (ints_set (ints_set HI5.out HNI.out 0 (.int .i64 (y + x + high))) HNI.out 1 (.int .i64 0))
              have HOo := Lib.hid (owns_off13 (owns_off13 HOo.out (m := BBa) (fun r e => by have := HLT2.out r e; have := HPL.out; omega) 0 (.int .i64 (y + x + high))) (m := BBa) (fun r e => by have := HLT2.out r e; have := HPL.out; omega) 1 (.int .i64 0))
              generalize (w5.setCell ⟨BBa, 0, none⟩ (.int .i64 (y + x + high))).setCell ⟨BBa, 1, none⟩ (.int .i64 0) = w6 at h6 HOo HPB HI5 ⊢
              refine wpAnyH_take (i := 11) (v := ?_) rfl (by kernel_rfl) (by kernel_rfl) (by kernel_rfl) (fun _ _ _ h => h) (Or.inl ⟨by rfl, ?_⟩) h6 ?_
              rotate_left
              · intro w hSw; obtain ⟨hSw, hSp⟩ := hSw; obtain ⟨⟨g0, g1, g2⟩, _⟩ := hSp.of3; go_simp; with_reducible rfl
              try simp only [Act.put, List.getElem_toArray, List.getElem_cons_succ, List.getElem_cons_zero, List.setIfInBounds_toArray, List.set_cons_zero, List.set_cons_succ]
              refine wpAnyH_done (by kernel_rfl) ?_ _
              have HE3 := Lib.hid HPB.out
              have HI3 := Lib.hid HI5.out
              have HOl := Lib.hid HOo.out
              have HPLa := Lib.hid HPL.out
              clear HPB HI5 HOo HPL HNI
              go_wp2_with fail
              refine Go.wp_region_held_drew (S := fun W' => On V W' ∧ Box W' BP [.int .i64 4, .int .i64 high, .int .i64 0]) (by kernel_rfl) ⟨h6.1.drew, h6.2.drew⟩ (fun h7 => ?_)
              show wpAnyH _ _ _ _ _ 12 (Array.replicate 12 false) _ _
              have hbz : Below w6.heap.size w6 w6.drew := (Below.refl _ _).drew
              have HOl := Lib.hid (owns_below HOl.out hbz)
              have HE3 := Lib.hid (HE3.out.below hbz)
              have HI3 := Lib.hid (ints_on HI3.out hbz)
              clear hbz
              generalize w6.drew = w7 at h7 HOl HE3 HI3 ⊢
              refine wpAnyH_take (i := 0) (v := ?_) rfl (by kernel_rfl) (by kernel_rfl) (by kernel_rfl) (fun _ _ _ h => h) (Or.inl ⟨by rfl, ?_⟩) h7 ?_
              rotate_left
              · intro w hSw; obtain ⟨hSw, hSp⟩ := hSw; obtain ⟨⟨g0, g1, g2⟩, _⟩ := hSp.of3; go_simp; with_reducible rfl
              try simp only [Act.put, List.getElem_toArray, List.getElem_cons_succ, List.getElem_cons_zero, List.setIfInBounds_toArray, List.set_cons_zero, List.set_cons_succ]
              refine wpAnyH_take (i := 1) (v := ?_) rfl (by kernel_rfl) (by kernel_rfl) (by kernel_rfl) (fun _ _ _ h => h) (Or.inl ⟨by rfl, ?_⟩) h7 ?_
              rotate_left
              · intro w hSw; obtain ⟨hSw, hSp⟩ := hSw; obtain ⟨⟨g0, g1, g2⟩, _⟩ := hSp.of3; go_simp; with_reducible rfl
              try simp only [Act.put, List.getElem_toArray, List.getElem_cons_succ, List.getElem_cons_zero, List.setIfInBounds_toArray, List.set_cons_zero, List.set_cons_succ]
              refine wpAnyH_take (i := 2) (v := ?_) rfl (by kernel_rfl) (by kernel_rfl) (by kernel_rfl) (fun _ _ _ h => h) (Or.inl ⟨by rfl, ?_⟩) h7 ?_
              rotate_left
              · intro w hSw; obtain ⟨hSw, hSp⟩ := hSw; obtain ⟨⟨g0, g1, g2⟩, _⟩ := hSp.of3; go_simp; with_reducible rfl
              try simp only [Act.put, List.getElem_toArray, List.getElem_cons_succ, List.getElem_cons_zero, List.setIfInBounds_toArray, List.set_cons_zero, List.set_cons_succ]
              refine wpAnyH_ready (rs := [3, 9]) (by kernel_rfl) (by simp) ?_
              refine AllReadyH.cons rfl (fun K hK => ?_) (AllReadyH.cons rfl (fun K hK => ?_) AllReadyH.nil)
              · go_simp
                refine hK.out _ _ ⟨On.alloc h7.1 _, h7.2.alloc _⟩ (fun h8 => ?_)
                clear hK K
                try simp only [Act.put, List.getElem_toArray, List.getElem_cons_succ, List.getElem_cons_zero, List.setIfInBounds_toArray, List.set_cons_zero, List.set_cons_succ]
                have hbz : Below w7.heap.size w7 (w7.alloc (.cells #[.int .i64 4, .int .i64 high, .int .i64 0] 33)) := (Below.refl _ _).alloc (Nat.le_refl _) _
                have HCS := Lib.hid (cells_st w7 33 4 high 0)
                have HOl := Lib.hid (owns_below HOl.out hbz)
                have HE3 := Lib.hid (HE3.out.below hbz)
                have HI3 := Lib.hid (ints_on HI3.out hbz)
                clear hbz
                generalize w7.heap.size = BS at HCS ⊢
                generalize w7.alloc (.cells #[.int .i64 4, .int .i64 high, .int .i64 0] 33) = w8 at h8 HOl HE3 HI3 HCS ⊢
                refine wpAnyH_ready (rs := [4, 9]) (by kernel_rfl) (by simp) ?_
                refine AllReadyH.cons rfl (fun K hK => ?_) (AllReadyH.cons rfl (fun K hK => ?_) AllReadyH.nil)
                · refine step_append_cells _ rfl (.tmp 88) (.tmp 90) _ rfl V.heap.size 33 i0 (.agg #[.int .i64 0, .int .i64 0, .int .i64 0]) 3 24 Try.underlying24 hi0 hz0 hz1 hz2 rfl (by decide) (.slice A2 k c2) k _ rfl HOl.out _ 1 1 _ rfl HCS.out (encSt_one ⟨_, _, _⟩) (by unfold maxLen; omega) (by omega) (Below.size h8.1) ?_
                  intro A5 c5 w9 hown5 hg5
                  refine hK.out _ _ ⟨Below.grown h8.1 hg5 (Below.size h8.1) (fun r e => owns_block HOl.out r e), h8.2.grown hg5 (fun r e => Nat.ne_of_lt (HLT2.out r e))⟩ (fun h9 => ?_)
                  clear hK K
                  try simp only [Act.put, List.getElem_toArray, List.getElem_cons_succ, List.getElem_cons_zero, List.setIfInBounds_toArray, List.set_cons_zero, List.set_cons_succ]
                  have HR5 := Lib.hid (ownsRow_rows (enc := encSt) (zs := p2 ++ [⟨4, high, 0⟩]) encSt_len (by decide) (by rw [List.flatMap_append]; exact hown5))
                  have HE3 := Lib.hid (HE3.out.grown hg5 (fun r e => by have := HLT2.out r e; have := HPLa.out; omega))
                  have HI3 := Lib.hid (ints_grown HI3.out hg5 (fun q e r e2 => by have := HLT2.out r e2; have := HF3.out q e; omega))
                  clear hown5 hg5
                  refine wpAnyH_ready (rs := [5, 9]) (by kernel_rfl) (by simp) ?_
                  refine AllReadyH.cons rfl (fun K hK => ?_) (AllReadyH.cons rfl (fun K hK => ?_) AllReadyH.nil)
                  · go_simp
                    refine (HH.out.run E3.out E4.out HY.out HM.out N2.out (by omega) HR5.out).mono ?_
                    rintro e w10 ⟨A6b, n6, c6b, rfl, hn6, hI6, hb6, hf6⟩
                    obtain rfl : n6 = 1 := hn6
                    refine hK.out _ _ ⟨On.step h9.1 hb6, h9.2.below hb6⟩ (fun h10 => ?_)
                    clear hK K
                    try simp only [Act.put, List.getElem_toArray, List.getElem_cons_succ, List.getElem_cons_zero, List.setIfInBounds_toArray, List.set_cons_zero, List.set_cons_succ]
                    have HF4 := Lib.hid (show ∀ q, A6b = some q → BP < q.block from fun q e => Nat.lt_of_lt_of_le h9.2.lt (hf6 q e))
                    have HE3 := Lib.hid (HE3.out.below hb6)
                    have HI3 := Lib.hid (ints_on HI3.out hb6)
                    have HI5 := Lib.hid hI6
                    clear hI6 hb6 hf6
                    refine wpAnyH_take (i := 6) (v := ?_) rfl (by kernel_rfl) (by kernel_rfl) (by kernel_rfl) (fun _ _ _ h => h) (Or.inl ⟨by rfl, ?_⟩) h10 ?_
                    rotate_left
                    · intro w hSw; obtain ⟨hSw, hSp⟩ := hSw; obtain ⟨⟨g0, g1, g2⟩, _⟩ := hSp.of3; go_simp; with_reducible rfl
                    try simp only [Act.put, List.getElem_toArray, List.getElem_cons_succ, List.getElem_cons_zero, List.setIfInBounds_toArray, List.set_cons_zero, List.set_cons_succ]
                    refine wpAnyH_take (i := 7) (v := ?_) rfl (by kernel_rfl) (by kernel_rfl) (by kernel_rfl) (fun _ _ _ h => h) (Or.inl ⟨by rfl, ?_⟩) h10 ?_
                    rotate_left
                    · intro w hSw; obtain ⟨hSw, hSp⟩ := hSw; obtain ⟨⟨g0, g1, g2⟩, _⟩ := hSp.of3; go_simp; with_reducible rfl
                    try simp only [Act.put, List.getElem_toArray, List.getElem_cons_succ, List.getElem_cons_zero, List.setIfInBounds_toArray, List.set_cons_zero, List.set_cons_succ]
                    refine wpAnyH_take (i := 8) (v := ?_) rfl (by kernel_rfl) (by kernel_rfl) (by kernel_rfl) (fun _ _ _ h => h) (Or.inl ⟨by rfl, ?_⟩) h10 ?_
                    rotate_left
                    · intro w hSw; obtain ⟨hSw, hSp⟩ := hSw; obtain ⟨⟨g0, g1, g2⟩, _⟩ := hSp.of3; go_simp; with_reducible rfl
                    try simp only [Act.put, List.getElem_toArray, List.getElem_cons_succ, List.getElem_cons_zero, List.setIfInBounds_toArray, List.set_cons_zero, List.set_cons_succ]
                    refine wpAnyH_ready (rs := [9]) (by kernel_rfl) (by simp) ?_
                    refine AllReadyH.cons rfl (fun K hK => ?_) AllReadyH.nil
                    go_simp
                    refine hK.out _ _ ⟨On.alloc h10.1 _, h10.2.alloc _⟩ (fun h11 => ?_)
                    clear hK K
                    try simp only [Act.put, List.getElem_toArray, List.getElem_cons_succ, List.getElem_cons_zero, List.setIfInBounds_toArray, List.set_cons_zero, List.set_cons_succ]
                    have hbz : Below w10.heap.size w10 (w10.alloc (.cells #[.int .i64 0, .int .i64 0] 23)) := (Below.refl _ _).alloc (Nat.le_refl _) _
                    have HPB := Lib.hid (Box.new2 w10 (.int .i64 0) (.int .i64 0) 23)
                    have HPL := Lib.hid (show BP < w10.heap.size from h10.2.lt)
                    have HNI := Lib.hid (show ∀ q, A6b = some q → q.block ≠ w10.heap.size from fun q e => Nat.ne_of_lt (ints_lt HI5.out (by decide) q e))
                    have HBB := Lib.hid (show BBa ≠ w10.heap.size from Nat.ne_of_lt HE3.out.lt)
                    have HN3 := Lib.hid (show ∀ q, A6a = some q → q.block ≠ w10.heap.size from fun q e => Nat.ne_of_lt (ints_lt HI3.out (by decide) q e))
                    have HE3 := Lib.hid (HE3.out.below hbz)
                    have HI3 := Lib.hid (ints_on HI3.out hbz)
                    have HI5 := Lib.hid (ints_on HI5.out hbz)
                    clear hbz
                    generalize w10.heap.size = BBb at HPB HPL HNI HN3 HBB ⊢
                    generalize w10.alloc (.cells #[.int .i64 0, .int .i64 0] 23) = w11 at h11 HE3 HI3 HI5 HPB ⊢
                    refine wpAnyH_ready (rs := [10]) (by kernel_rfl) (by simp) ?_
                    refine AllReadyH.cons rfl (fun K hK => ?_) AllReadyH.nil
                    obtain ⟨d0, d1, d2, d3, d4⟩ := HPB.out.of2
                    go_simp
                    refine hK.out _ _ ⟨On.set (On.set h11.1 (by have := HPL.out; have := HVB.out; omega) _) (by have := HPL.out; have := HVB.out; omega) _, (h11.2.set_other (m := BBb) (by have := HPL.out; omega) 0 _).set_other (m := BBb) (by have := HPL.out; omega) 1 _⟩ (fun h12 => ?_)
                    clear hK K d0 d1 d2 d3 d4
                    try simp only [Act.put, List.getElem_toArray, List.getElem_cons_succ, List.getElem_cons_zero, List.setIfInBounds_toArray, List.set_cons_zero, List.set_cons_succ]
                    have HPB := Lib.hid (show Box ((w11.setCell ⟨BBb, 0, none⟩ (.int .i64 (y + x + high))).setCell ⟨BBb, 1, none⟩ (.int .i64 0)) BBb [.int .i64 (y + x + high), .int .i64 0] from (HPB.out.set 0 (.int .i64 (y + x + high)) (by simp)).set 1 (.int .i64 0) (by simp))
                    have HI5 := Lib.hid (ints_set (ints_set HI5.out HNI.out 0 (.int .i64 (y + x + high))) HNI.out 1 (.int .i64 0))
                    have HE3 := Lib.hid ((HE3.out.set_other (m := BBb) HBB.out.symm 0 (.int .i64 (y + x + high))).set_other (m := BBb) HBB.out.symm 1 (.int .i64 0))
                    have HI3 := Lib.hid (ints_set (ints_set HI3.out HN3.out 0 (.int .i64 (y + x + high))) HN3.out 1 (.int .i64 0))
                    generalize (w11.setCell ⟨BBb, 0, none⟩ (.int .i64 (y + x + high))).setCell ⟨BBb, 1, none⟩ (.int .i64 0) = w12 at h12 HE3 HI3 HI5 HPB ⊢
                    refine wpAnyH_take (i := 11) (v := ?_) rfl (by kernel_rfl) (by kernel_rfl) (by kernel_rfl) (fun _ _ _ h => h) (Or.inl ⟨by rfl, ?_⟩) h12 ?_
                    rotate_left
                    · intro w hSw; obtain ⟨hSw, hSp⟩ := hSw; obtain ⟨⟨g0, g1, g2⟩, _⟩ := hSp.of3; go_simp; with_reducible rfl
                    try simp only [Act.put, List.getElem_toArray, List.getElem_cons_succ, List.getElem_cons_zero, List.setIfInBounds_toArray, List.set_cons_zero, List.set_cons_succ]
                    refine wpAnyH_done (by kernel_rfl) ?_ _
                    have C1 := Lib.hid (show ∀ p' : OnW w12, Calls Try.prog 10 #[.slice A6a 1 c6a, .slice A6b 1 c6b] p'.w fun e w' => e = .returned (.bool true) ∧ Below p'.w.heap.size p'.w w' from fun p' => rnumbers_to (v := true) (by simp) (ints_on HI3.out p'.h) (ints_on HI5.out p'.h))
                    have C2 := Lib.hid (show ∀ p' : OnW w12, Calls Try.prog 19 #[.int .i64 (y + x + high), .int .i64 0] p'.w fun e w' => e = .returned (.agg #[.int .i64 (y + x + high), .int .i64 0]) ∧ Below p'.w.heap.size p'.w w' from fun p' => pen_to _ _ _)
                    have C3 := Lib.hid (show ∀ p' : OnW w12, Calls Try.prog 7 #[] p'.w fun e w' => e = .returned (.bool true) ∧ Below p'.w.heap.size p'.w w' from fun p' => mawake_any HH.out _)
                    have HX9 := Lib.hid (HX.out.below h12.1)
                    have HB := Lib.hid (below_then HB.out h12.1)
                    obtain ⟨k0, k1⟩ := OnW.of2 HX9.out
                    obtain ⟨j2, j3⟩ := OnW.of2 HE3.out
                    obtain ⟨d0, d1⟩ := OnW.of2 HPB.out
                    obtain ⟨b9, o9, z9, e9, hz9, hc9⟩ := ints_get HI3.out (show 0 < 1 by decide)
                    subst e9
                    obtain rfl : y + x = z9 := by injection hz9
                    rw [Nat.add_zero] at hc9
                    have d9 := OnW.cell hc9
                    have he := pn_same
                    clear hc9 hz9
                    go_wp2_with fail
                    refine wp_region_on (by kernel_rfl) (by kernel_rfl) ?_
                    repeat (go_big_quiet_step ((first
                        | (go_at_call 10; with_reducible exact Calls.on_of (C1.out _))
                        | (go_at_call 19; with_reducible exact Calls.on_of (C2.out _))
                        | (go_at_call 7; with_reducible exact Calls.on_of (C3.out _)))))
                    refine wpQuiet_nil ?_
                    intro w99 hw'
                    obtain ⟨⟨w', hOn⟩, hw''⟩ := hw'
                    obtain rfl : w99 = w' := hw''
                    have HB9 := Lib.hid (below_then HB.out hOn)
                    clear hOn k0 k1 j2 j3 d0 d1 d9
                    go_wp2_with fail
                    go_ret
                    exact ⟨rfl, HB9.out⟩
                  · go_simp
                    refine hK.out _ _ ⟨On.alloc h9.1 _, h9.2.alloc _⟩ (fun h10 => ?_)
                    clear hK K
                    try simp only [Act.put, List.getElem_toArray, List.getElem_cons_succ, List.getElem_cons_zero, List.setIfInBounds_toArray, List.set_cons_zero, List.set_cons_succ]
                    have hbz : Below w9.heap.size w9 (w9.alloc (.cells #[.int .i64 0, .int .i64 0] 23)) := (Below.refl _ _).alloc (Nat.le_refl _) _
                    have HPB := Lib.hid (Box.new2 w9 (.int .i64 0) (.int .i64 0) 23)
                    have HPL := Lib.hid (show BP < w9.heap.size from h9.2.lt)
                    have HBB := Lib.hid (show BBa ≠ w9.heap.size from Nat.ne_of_lt HE3.out.lt)
                    have HN3 := Lib.hid (show ∀ q, A6a = some q → q.block ≠ w9.heap.size from fun q e => Nat.ne_of_lt (ints_lt HI3.out (by decide) q e))
                    have HE3 := Lib.hid (HE3.out.below hbz)
                    have HI3 := Lib.hid (ints_on HI3.out hbz)
                    have HR5 := Lib.hid (HR5.out.below hbz)
                    clear hbz
                    generalize w9.heap.size = BBb at HPB HPL HN3 HBB ⊢
                    generalize w9.alloc (.cells #[.int .i64 0, .int .i64 0] 23) = w10 at h10 HE3 HI3 HR5 HPB ⊢
                    refine wpAnyH_ready (rs := [5]) (by kernel_rfl) (by simp) ?_
                    refine AllReadyH.cons rfl (fun K hK => ?_) AllReadyH.nil
                    go_simp
                    refine (HH.out.run E3.out E4.out HY.out HM.out N2.out (by omega) HR5.out).mono ?_
                    rintro e w11 ⟨A6b, n6, c6b, rfl, hn6, hI6, hb6, hf6⟩
                    obtain rfl : n6 = 1 := hn6
                    refine hK.out _ _ ⟨On.step h10.1 hb6, h10.2.below hb6⟩ (fun h11 => ?_)
                    clear hK K
                    try simp only [Act.put, List.getElem_toArray, List.getElem_cons_succ, List.getElem_cons_zero, List.setIfInBounds_toArray, List.set_cons_zero, List.set_cons_succ]
                    have HF4 := Lib.hid (show ∀ q, A6b = some q → BP < q.block from fun q e => Nat.lt_of_lt_of_le h10.2.lt (hf6 q e))
                    have HNI := Lib.hid (show ∀ q, A6b = some q → q.block ≠ BBb from fun q e => Nat.ne_of_gt (Nat.lt_of_lt_of_le HPB.out.lt (hf6 q e)))
                    have HE3 := Lib.hid (HE3.out.below hb6)
                    have HI3 := Lib.hid (ints_on HI3.out hb6)
                    have HPB := Lib.hid (HPB.out.below hb6)
                    have HI5 := Lib.hid hI6
                    clear hI6 hb6 hf6
                    refine wpAnyH_take (i := 6) (v := ?_) rfl (by kernel_rfl) (by kernel_rfl) (by kernel_rfl) (fun _ _ _ h => h) (Or.inl ⟨by rfl, ?_⟩) h11 ?_
                    rotate_left
                    · intro w hSw; obtain ⟨hSw, hSp⟩ := hSw; obtain ⟨⟨g0, g1, g2⟩, _⟩ := hSp.of3; go_simp; with_reducible rfl
                    try simp only [Act.put, List.getElem_toArray, List.getElem_cons_succ, List.getElem_cons_zero, List.setIfInBounds_toArray, List.set_cons_zero, List.set_cons_succ]
                    refine wpAnyH_take (i := 7) (v := ?_) rfl (by kernel_rfl) (by kernel_rfl) (by kernel_rfl) (fun _ _ _ h => h) (Or.inl ⟨by rfl, ?_⟩) h11 ?_
                    rotate_left
                    · intro w hSw; obtain ⟨hSw, hSp⟩ := hSw; obtain ⟨⟨g0, g1, g2⟩, _⟩ := hSp.of3; go_simp; with_reducible rfl
                    try simp only [Act.put, List.getElem_toArray, List.getElem_cons_succ, List.getElem_cons_zero, List.setIfInBounds_toArray, List.set_cons_zero, List.set_cons_succ]
                    refine wpAnyH_take (i := 8) (v := ?_) rfl (by kernel_rfl) (by kernel_rfl) (by kernel_rfl) (fun _ _ _ h => h) (Or.inl ⟨by rfl, ?_⟩) h11 ?_
                    rotate_left
                    · intro w hSw; obtain ⟨hSw, hSp⟩ := hSw; obtain ⟨⟨g0, g1, g2⟩, _⟩ := hSp.of3; go_simp; with_reducible rfl
                    try simp only [Act.put, List.getElem_toArray, List.getElem_cons_succ, List.getElem_cons_zero, List.setIfInBounds_toArray, List.set_cons_zero, List.set_cons_succ]
                    refine wpAnyH_ready (rs := [10]) (by kernel_rfl) (by simp) ?_
                    refine AllReadyH.cons rfl (fun K hK => ?_) AllReadyH.nil
                    obtain ⟨d0, d1, d2, d3, d4⟩ := HPB.out.of2
                    go_simp
                    refine hK.out _ _ ⟨On.set (On.set h11.1 (by have := HPL.out; have := HVB.out; omega) _) (by have := HPL.out; have := HVB.out; omega) _, (h11.2.set_other (m := BBb) (by have := HPL.out; omega) 0 _).set_other (m := BBb) (by have := HPL.out; omega) 1 _⟩ (fun h12 => ?_)
                    clear hK K d0 d1 d2 d3 d4
                    try simp only [Act.put, List.getElem_toArray, List.getElem_cons_succ, List.getElem_cons_zero, List.setIfInBounds_toArray, List.set_cons_zero, List.set_cons_succ]
                    have HPB := Lib.hid (show Box ((w11.setCell ⟨BBb, 0, none⟩ (.int .i64 (y + x + high))).setCell ⟨BBb, 1, none⟩ (.int .i64 0)) BBb [.int .i64 (y + x + high), .int .i64 0] from (HPB.out.set 0 (.int .i64 (y + x + high)) (by simp)).set 1 (.int .i64 0) (by simp))
                    have HI5 := Lib.hid (ints_set (ints_set HI5.out HNI.out 0 (.int .i64 (y + x + high))) HNI.out 1 (.int .i64 0))
                    have HE3 := Lib.hid ((HE3.out.set_other (m := BBb) HBB.out.symm 0 (.int .i64 (y + x + high))).set_other (m := BBb) HBB.out.symm 1 (.int .i64 0))
                    have HI3 := Lib.hid (ints_set (ints_set HI3.out HN3.out 0 (.int .i64 (y + x + high))) HN3.out 1 (.int .i64 0))
                    generalize (w11.setCell ⟨BBb, 0, none⟩ (.int .i64 (y + x + high))).setCell ⟨BBb, 1, none⟩ (.int .i64 0) = w12 at h12 HE3 HI3 HPB HI5 ⊢
                    refine wpAnyH_take (i := 11) (v := ?_) rfl (by kernel_rfl) (by kernel_rfl) (by kernel_rfl) (fun _ _ _ h => h) (Or.inl ⟨by rfl, ?_⟩) h12 ?_
                    rotate_left
                    · intro w hSw; obtain ⟨hSw, hSp⟩ := hSw; obtain ⟨⟨g0, g1, g2⟩, _⟩ := hSp.of3; go_simp; with_reducible rfl
                    try simp only [Act.put, List.getElem_toArray, List.getElem_cons_succ, List.getElem_cons_zero, List.setIfInBounds_toArray, List.set_cons_zero, List.set_cons_succ]
                    refine wpAnyH_done (by kernel_rfl) ?_ _
                    have C1 := Lib.hid (show ∀ p' : OnW w12, Calls Try.prog 10 #[.slice A6a 1 c6a, .slice A6b 1 c6b] p'.w fun e w' => e = .returned (.bool true) ∧ Below p'.w.heap.size p'.w w' from fun p' => rnumbers_to (v := true) (by simp) (ints_on HI3.out p'.h) (ints_on HI5.out p'.h))
                    have C2 := Lib.hid (show ∀ p' : OnW w12, Calls Try.prog 19 #[.int .i64 (y + x + high), .int .i64 0] p'.w fun e w' => e = .returned (.agg #[.int .i64 (y + x + high), .int .i64 0]) ∧ Below p'.w.heap.size p'.w w' from fun p' => pen_to _ _ _)
                    have C3 := Lib.hid (show ∀ p' : OnW w12, Calls Try.prog 7 #[] p'.w fun e w' => e = .returned (.bool true) ∧ Below p'.w.heap.size p'.w w' from fun p' => mawake_any HH.out _)
                    have HX9 := Lib.hid (HX.out.below h12.1)
                    have HB := Lib.hid (below_then HB.out h12.1)
                    obtain ⟨k0, k1⟩ := OnW.of2 HX9.out
                    obtain ⟨j2, j3⟩ := OnW.of2 HE3.out
                    obtain ⟨d0, d1⟩ := OnW.of2 HPB.out
                    obtain ⟨b9, o9, z9, e9, hz9, hc9⟩ := ints_get HI3.out (show 0 < 1 by decide)
                    subst e9
                    obtain rfl : y + x = z9 := by injection hz9
                    rw [Nat.add_zero] at hc9
                    have d9 := OnW.cell hc9
                    have he := pn_same
                    clear hc9 hz9
                    go_wp2_with fail
                    refine wp_region_on (by kernel_rfl) (by kernel_rfl) ?_
                    repeat (go_big_quiet_step ((first
                        | (go_at_call 10; with_reducible exact Calls.on_of (C1.out _))
                        | (go_at_call 19; with_reducible exact Calls.on_of (C2.out _))
                        | (go_at_call 7; with_reducible exact Calls.on_of (C3.out _)))))
                    refine wpQuiet_nil ?_
                    intro w99 hw'
                    obtain ⟨⟨w', hOn⟩, hw''⟩ := hw'
                    obtain rfl : w99 = w' := hw''
                    have HB9 := Lib.hid (below_then HB.out hOn)
                    clear hOn k0 k1 j2 j3 d0 d1 d9
                    go_wp2_with fail
                    go_ret
                    exact ⟨rfl, HB9.out⟩
                · go_simp
                  refine hK.out _ _ ⟨On.alloc h8.1 _, h8.2.alloc _⟩ (fun h9 => ?_)
                  clear hK K
                  try simp only [Act.put, List.getElem_toArray, List.getElem_cons_succ, List.getElem_cons_zero, List.setIfInBounds_toArray, List.set_cons_zero, List.set_cons_succ]
                  have hbz : Below w8.heap.size w8 (w8.alloc (.cells #[.int .i64 0, .int .i64 0] 23)) := (Below.refl _ _).alloc (Nat.le_refl _) _
                  have HPB := Lib.hid (Box.new2 w8 (.int .i64 0) (.int .i64 0) 23)
                  have HPL := Lib.hid (show BP < w8.heap.size from h8.2.lt)
                  have HBB := Lib.hid (show BBa ≠ w8.heap.size from Nat.ne_of_lt HE3.out.lt)
                  have HN3 := Lib.hid (show ∀ q, A6a = some q → q.block ≠ w8.heap.size from fun q e => Nat.ne_of_lt (ints_lt HI3.out (by decide) q e))
                  have HOl := Lib.hid (owns_below HOl.out hbz)
                  have HE3 := Lib.hid (HE3.out.below hbz)
                  have HI3 := Lib.hid (ints_on HI3.out hbz)
                  have HCS := Lib.hid (HCS.out.below hbz rfl)
                  clear hbz
                  generalize w8.heap.size = BBb at HPB HPL HN3 HBB ⊢
                  generalize w8.alloc (.cells #[.int .i64 0, .int .i64 0] 23) = w9 at h9 HOl HE3 HI3 HCS HPB ⊢
                  refine wpAnyH_ready (rs := [4]) (by kernel_rfl) (by simp) ?_
                  refine AllReadyH.cons rfl (fun K hK => ?_) AllReadyH.nil
                  refine step_append_cells _ rfl (.tmp 88) (.tmp 90) _ rfl V.heap.size 33 i0 (.agg #[.int .i64 0, .int .i64 0, .int .i64 0]) 3 24 Try.underlying24 hi0 hz0 hz1 hz2 rfl (by decide) (.slice A2 k c2) k _ rfl HOl.out _ 1 1 _ rfl HCS.out (encSt_one ⟨_, _, _⟩) (by unfold maxLen; omega) (by omega) (Below.size h9.1) ?_
                  intro A5 c5 w10 hown5 hg5
                  refine hK.out _ _ ⟨Below.grown h9.1 hg5 (Below.size h9.1) (fun r e => owns_block HOl.out r e), h9.2.grown hg5 (fun r e => Nat.ne_of_lt (HLT2.out r e))⟩ (fun h10 => ?_)
                  clear hK K
                  try simp only [Act.put, List.getElem_toArray, List.getElem_cons_succ, List.getElem_cons_zero, List.setIfInBounds_toArray, List.set_cons_zero, List.set_cons_succ]
                  have HR5 := Lib.hid (ownsRow_rows (enc := encSt) (zs := p2 ++ [⟨4, high, 0⟩]) encSt_len (by decide) (by rw [List.flatMap_append]; exact hown5))
                  have HPB := Lib.hid (HPB.out.grown hg5 (fun r e => by have := HLT2.out r e; have := HPL.out; omega))
                  have HE3 := Lib.hid (HE3.out.grown hg5 (fun r e => by have := HLT2.out r e; have := HPLa.out; omega))
                  have HI3 := Lib.hid (ints_grown HI3.out hg5 (fun q e r e2 => by have := HLT2.out r e2; have := HF3.out q e; omega))
                  clear hown5 hg5
                  refine wpAnyH_ready (rs := [5]) (by kernel_rfl) (by simp) ?_
                  refine AllReadyH.cons rfl (fun K hK => ?_) AllReadyH.nil
                  go_simp
                  refine (HH.out.run E3.out E4.out HY.out HM.out N2.out (by omega) HR5.out).mono ?_
                  rintro e w11 ⟨A6b, n6, c6b, rfl, hn6, hI6, hb6, hf6⟩
                  obtain rfl : n6 = 1 := hn6
                  refine hK.out _ _ ⟨On.step h10.1 hb6, h10.2.below hb6⟩ (fun h11 => ?_)
                  clear hK K
                  try simp only [Act.put, List.getElem_toArray, List.getElem_cons_succ, List.getElem_cons_zero, List.setIfInBounds_toArray, List.set_cons_zero, List.set_cons_succ]
                  have HF4 := Lib.hid (show ∀ q, A6b = some q → BP < q.block from fun q e => Nat.lt_of_lt_of_le h10.2.lt (hf6 q e))
                  have HNI := Lib.hid (show ∀ q, A6b = some q → q.block ≠ BBb from fun q e => Nat.ne_of_gt (Nat.lt_of_lt_of_le HPB.out.lt (hf6 q e)))
                  have HE3 := Lib.hid (HE3.out.below hb6)
                  have HI3 := Lib.hid (ints_on HI3.out hb6)
                  have HPB := Lib.hid (HPB.out.below hb6)
                  have HI5 := Lib.hid hI6
                  clear hI6 hb6 hf6
                  refine wpAnyH_take (i := 6) (v := ?_) rfl (by kernel_rfl) (by kernel_rfl) (by kernel_rfl) (fun _ _ _ h => h) (Or.inl ⟨by rfl, ?_⟩) h11 ?_
                  rotate_left
                  · intro w hSw; obtain ⟨hSw, hSp⟩ := hSw; obtain ⟨⟨g0, g1, g2⟩, _⟩ := hSp.of3; go_simp; with_reducible rfl
                  try simp only [Act.put, List.getElem_toArray, List.getElem_cons_succ, List.getElem_cons_zero, List.setIfInBounds_toArray, List.set_cons_zero, List.set_cons_succ]
                  refine wpAnyH_take (i := 7) (v := ?_) rfl (by kernel_rfl) (by kernel_rfl) (by kernel_rfl) (fun _ _ _ h => h) (Or.inl ⟨by rfl, ?_⟩) h11 ?_
                  rotate_left
                  · intro w hSw; obtain ⟨hSw, hSp⟩ := hSw; obtain ⟨⟨g0, g1, g2⟩, _⟩ := hSp.of3; go_simp; with_reducible rfl
                  try simp only [Act.put, List.getElem_toArray, List.getElem_cons_succ, List.getElem_cons_zero, List.setIfInBounds_toArray, List.set_cons_zero, List.set_cons_succ]
                  refine wpAnyH_take (i := 8) (v := ?_) rfl (by kernel_rfl) (by kernel_rfl) (by kernel_rfl) (fun _ _ _ h => h) (Or.inl ⟨by rfl, ?_⟩) h11 ?_
                  rotate_left
                  · intro w hSw; obtain ⟨hSw, hSp⟩ := hSw; obtain ⟨⟨g0, g1, g2⟩, _⟩ := hSp.of3; go_simp; with_reducible rfl
                  try simp only [Act.put, List.getElem_toArray, List.getElem_cons_succ, List.getElem_cons_zero, List.setIfInBounds_toArray, List.set_cons_zero, List.set_cons_succ]
                  refine wpAnyH_ready (rs := [10]) (by kernel_rfl) (by simp) ?_
                  refine AllReadyH.cons rfl (fun K hK => ?_) AllReadyH.nil
                  obtain ⟨d0, d1, d2, d3, d4⟩ := HPB.out.of2
                  go_simp
                  refine hK.out _ _ ⟨On.set (On.set h11.1 (by have := HPL.out; have := HVB.out; omega) _) (by have := HPL.out; have := HVB.out; omega) _, (h11.2.set_other (m := BBb) (by have := HPL.out; omega) 0 _).set_other (m := BBb) (by have := HPL.out; omega) 1 _⟩ (fun h12 => ?_)
                  clear hK K d0 d1 d2 d3 d4
                  try simp only [Act.put, List.getElem_toArray, List.getElem_cons_succ, List.getElem_cons_zero, List.setIfInBounds_toArray, List.set_cons_zero, List.set_cons_succ]
                  have HPB := Lib.hid (show Box ((w11.setCell ⟨BBb, 0, none⟩ (.int .i64 (y + x + high))).setCell ⟨BBb, 1, none⟩ (.int .i64 0)) BBb [.int .i64 (y + x + high), .int .i64 0] from (HPB.out.set 0 (.int .i64 (y + x + high)) (by simp)).set 1 (.int .i64 0) (by simp))
                  have HI5 := Lib.hid (ints_set (ints_set HI5.out HNI.out 0 (.int .i64 (y + x + high))) HNI.out 1 (.int .i64 0))
                  have HE3 := Lib.hid ((HE3.out.set_other (m := BBb) HBB.out.symm 0 (.int .i64 (y + x + high))).set_other (m := BBb) HBB.out.symm 1 (.int .i64 0))
                  have HI3 := Lib.hid (ints_set (ints_set HI3.out HN3.out 0 (.int .i64 (y + x + high))) HN3.out 1 (.int .i64 0))
                  generalize (w11.setCell ⟨BBb, 0, none⟩ (.int .i64 (y + x + high))).setCell ⟨BBb, 1, none⟩ (.int .i64 0) = w12 at h12 HE3 HI3 HPB HI5 ⊢
                  refine wpAnyH_take (i := 11) (v := ?_) rfl (by kernel_rfl) (by kernel_rfl) (by kernel_rfl) (fun _ _ _ h => h) (Or.inl ⟨by rfl, ?_⟩) h12 ?_
                  rotate_left
                  · intro w hSw; obtain ⟨hSw, hSp⟩ := hSw; obtain ⟨⟨g0, g1, g2⟩, _⟩ := hSp.of3; go_simp; with_reducible rfl
                  try simp only [Act.put, List.getElem_toArray, List.getElem_cons_succ, List.getElem_cons_zero, List.setIfInBounds_toArray, List.set_cons_zero, List.set_cons_succ]
                  refine wpAnyH_done (by kernel_rfl) ?_ _
                  have C1 := Lib.hid (show ∀ p' : OnW w12, Calls Try.prog 10 #[.slice A6a 1 c6a, .slice A6b 1 c6b] p'.w fun e w' => e = .returned (.bool true) ∧ Below p'.w.heap.size p'.w w' from fun p' => rnumbers_to (v := true) (by simp) (ints_on HI3.out p'.h) (ints_on HI5.out p'.h))
                  have C2 := Lib.hid (show ∀ p' : OnW w12, Calls Try.prog 19 #[.int .i64 (y + x + high), .int .i64 0] p'.w fun e w' => e = .returned (.agg #[.int .i64 (y + x + high), .int .i64 0]) ∧ Below p'.w.heap.size p'.w w' from fun p' => pen_to _ _ _)
                  have C3 := Lib.hid (show ∀ p' : OnW w12, Calls Try.prog 7 #[] p'.w fun e w' => e = .returned (.bool true) ∧ Below p'.w.heap.size p'.w w' from fun p' => mawake_any HH.out _)
                  have HX9 := Lib.hid (HX.out.below h12.1)
                  have HB := Lib.hid (below_then HB.out h12.1)
                  obtain ⟨k0, k1⟩ := OnW.of2 HX9.out
                  obtain ⟨j2, j3⟩ := OnW.of2 HE3.out
                  obtain ⟨d0, d1⟩ := OnW.of2 HPB.out
                  obtain ⟨b9, o9, z9, e9, hz9, hc9⟩ := ints_get HI3.out (show 0 < 1 by decide)
                  subst e9
                  obtain rfl : y + x = z9 := by injection hz9
                  rw [Nat.add_zero] at hc9
                  have d9 := OnW.cell hc9
                  have he := pn_same
                  clear hc9 hz9
                  go_wp2_with fail
                  refine wp_region_on (by kernel_rfl) (by kernel_rfl) ?_
                  repeat (go_big_quiet_step ((first
                      | (go_at_call 10; with_reducible exact Calls.on_of (C1.out _))
                      | (go_at_call 19; with_reducible exact Calls.on_of (C2.out _))
                      | (go_at_call 7; with_reducible exact Calls.on_of (C3.out _)))))
                  refine wpQuiet_nil ?_
                  intro w99 hw'
                  obtain ⟨⟨w', hOn⟩, hw''⟩ := hw'
                  obtain rfl : w99 = w' := hw''
                  have HB9 := Lib.hid (below_then HB.out hOn)
                  clear hOn k0 k1 j2 j3 d0 d1 d9
                  go_wp2_with fail
                  go_ret
                  exact ⟨rfl, HB9.out⟩
              · go_simp
                refine hK.out _ _ ⟨On.alloc h7.1 _, h7.2.alloc _⟩ (fun h8 => ?_)
                clear hK K
                try simp only [Act.put, List.getElem_toArray, List.getElem_cons_succ, List.getElem_cons_zero, List.setIfInBounds_toArray, List.set_cons_zero, List.set_cons_succ]
                have hbz : Below w7.heap.size w7 (w7.alloc (.cells #[.int .i64 0, .int .i64 0] 23)) := (Below.refl _ _).alloc (Nat.le_refl _) _
                have HPB := Lib.hid (Box.new2 w7 (.int .i64 0) (.int .i64 0) 23)
                have HPL := Lib.hid (show BP < w7.heap.size from h7.2.lt)
                have HBB := Lib.hid (show BBa ≠ w7.heap.size from Nat.ne_of_lt HE3.out.lt)
                have HN3 := Lib.hid (show ∀ q, A6a = some q → q.block ≠ w7.heap.size from fun q e => Nat.ne_of_lt (ints_lt HI3.out (by decide) q e))
                have HOl := Lib.hid (owns_below HOl.out hbz)
                have HE3 := Lib.hid (HE3.out.below hbz)
                have HI3 := Lib.hid (ints_on HI3.out hbz)
                clear hbz
                generalize w7.heap.size = BBb at HPB HPL HN3 HBB ⊢
                generalize w7.alloc (.cells #[.int .i64 0, .int .i64 0] 23) = w8 at h8 HOl HE3 HI3 HPB ⊢
                refine wpAnyH_ready (rs := [3]) (by kernel_rfl) (by simp) ?_
                refine AllReadyH.cons rfl (fun K hK => ?_) AllReadyH.nil
                go_simp
                refine hK.out _ _ ⟨On.alloc h8.1 _, h8.2.alloc _⟩ (fun h9 => ?_)
                clear hK K
                try simp only [Act.put, List.getElem_toArray, List.getElem_cons_succ, List.getElem_cons_zero, List.setIfInBounds_toArray, List.set_cons_zero, List.set_cons_succ]
                have hbz : Below w8.heap.size w8 (w8.alloc (.cells #[.int .i64 4, .int .i64 high, .int .i64 0] 33)) := (Below.refl _ _).alloc (Nat.le_refl _) _
                have HCS := Lib.hid (cells_st w8 33 4 high 0)
                have HOl := Lib.hid (owns_below HOl.out hbz)
                have HE3 := Lib.hid (HE3.out.below hbz)
                have HI3 := Lib.hid (ints_on HI3.out hbz)
                have HPB := Lib.hid (HPB.out.below hbz)
                clear hbz
                generalize w8.heap.size = BS at HCS ⊢
                generalize w8.alloc (.cells #[.int .i64 4, .int .i64 high, .int .i64 0] 33) = w9 at h9 HOl HE3 HI3 HPB HCS ⊢
                refine wpAnyH_ready (rs := [4]) (by kernel_rfl) (by simp) ?_
                refine AllReadyH.cons rfl (fun K hK => ?_) AllReadyH.nil
                refine step_append_cells _ rfl (.tmp 88) (.tmp 90) _ rfl V.heap.size 33 i0 (.agg #[.int .i64 0, .int .i64 0, .int .i64 0]) 3 24 Try.underlying24 hi0 hz0 hz1 hz2 rfl (by decide) (.slice A2 k c2) k _ rfl HOl.out _ 1 1 _ rfl HCS.out (encSt_one ⟨_, _, _⟩) (by unfold maxLen; omega) (by omega) (Below.size h9.1) ?_
                intro A5 c5 w10 hown5 hg5
                refine hK.out _ _ ⟨Below.grown h9.1 hg5 (Below.size h9.1) (fun r e => owns_block HOl.out r e), h9.2.grown hg5 (fun r e => Nat.ne_of_lt (HLT2.out r e))⟩ (fun h10 => ?_)
                clear hK K
                try simp only [Act.put, List.getElem_toArray, List.getElem_cons_succ, List.getElem_cons_zero, List.setIfInBounds_toArray, List.set_cons_zero, List.set_cons_succ]
                have HR5 := Lib.hid (ownsRow_rows (enc := encSt) (zs := p2 ++ [⟨4, high, 0⟩]) encSt_len (by decide) (by rw [List.flatMap_append]; exact hown5))
                have HPB := Lib.hid (HPB.out.grown hg5 (fun r e => by have := HLT2.out r e; have := HPL.out; omega))
                have HE3 := Lib.hid (HE3.out.grown hg5 (fun r e => by have := HLT2.out r e; have := HPLa.out; omega))
                have HI3 := Lib.hid (ints_grown HI3.out hg5 (fun q e r e2 => by have := HLT2.out r e2; have := HF3.out q e; omega))
                clear hown5 hg5
                refine wpAnyH_ready (rs := [5]) (by kernel_rfl) (by simp) ?_
                refine AllReadyH.cons rfl (fun K hK => ?_) AllReadyH.nil
                go_simp
                refine (HH.out.run E3.out E4.out HY.out HM.out N2.out (by omega) HR5.out).mono ?_
                rintro e w11 ⟨A6b, n6, c6b, rfl, hn6, hI6, hb6, hf6⟩
                obtain rfl : n6 = 1 := hn6
                refine hK.out _ _ ⟨On.step h10.1 hb6, h10.2.below hb6⟩ (fun h11 => ?_)
                clear hK K
                try simp only [Act.put, List.getElem_toArray, List.getElem_cons_succ, List.getElem_cons_zero, List.setIfInBounds_toArray, List.set_cons_zero, List.set_cons_succ]
                have HF4 := Lib.hid (show ∀ q, A6b = some q → BP < q.block from fun q e => Nat.lt_of_lt_of_le h10.2.lt (hf6 q e))
                have HNI := Lib.hid (show ∀ q, A6b = some q → q.block ≠ BBb from fun q e => Nat.ne_of_gt (Nat.lt_of_lt_of_le HPB.out.lt (hf6 q e)))
                have HE3 := Lib.hid (HE3.out.below hb6)
                have HI3 := Lib.hid (ints_on HI3.out hb6)
                have HPB := Lib.hid (HPB.out.below hb6)
                have HI5 := Lib.hid hI6
                clear hI6 hb6 hf6
                refine wpAnyH_take (i := 6) (v := ?_) rfl (by kernel_rfl) (by kernel_rfl) (by kernel_rfl) (fun _ _ _ h => h) (Or.inl ⟨by rfl, ?_⟩) h11 ?_
                rotate_left
                · intro w hSw; obtain ⟨hSw, hSp⟩ := hSw; obtain ⟨⟨g0, g1, g2⟩, _⟩ := hSp.of3; go_simp; with_reducible rfl
                try simp only [Act.put, List.getElem_toArray, List.getElem_cons_succ, List.getElem_cons_zero, List.setIfInBounds_toArray, List.set_cons_zero, List.set_cons_succ]
                refine wpAnyH_take (i := 7) (v := ?_) rfl (by kernel_rfl) (by kernel_rfl) (by kernel_rfl) (fun _ _ _ h => h) (Or.inl ⟨by rfl, ?_⟩) h11 ?_
                rotate_left
                · intro w hSw; obtain ⟨hSw, hSp⟩ := hSw; obtain ⟨⟨g0, g1, g2⟩, _⟩ := hSp.of3; go_simp; with_reducible rfl
                try simp only [Act.put, List.getElem_toArray, List.getElem_cons_succ, List.getElem_cons_zero, List.setIfInBounds_toArray, List.set_cons_zero, List.set_cons_succ]
                refine wpAnyH_take (i := 8) (v := ?_) rfl (by kernel_rfl) (by kernel_rfl) (by kernel_rfl) (fun _ _ _ h => h) (Or.inl ⟨by rfl, ?_⟩) h11 ?_
                rotate_left
                · intro w hSw; obtain ⟨hSw, hSp⟩ := hSw; obtain ⟨⟨g0, g1, g2⟩, _⟩ := hSp.of3; go_simp; with_reducible rfl
                try simp only [Act.put, List.getElem_toArray, List.getElem_cons_succ, List.getElem_cons_zero, List.setIfInBounds_toArray, List.set_cons_zero, List.set_cons_succ]
                refine wpAnyH_ready (rs := [10]) (by kernel_rfl) (by simp) ?_
                refine AllReadyH.cons rfl (fun K hK => ?_) AllReadyH.nil
                obtain ⟨d0, d1, d2, d3, d4⟩ := HPB.out.of2
                go_simp
                refine hK.out _ _ ⟨On.set (On.set h11.1 (by have := HPL.out; have := HVB.out; omega) _) (by have := HPL.out; have := HVB.out; omega) _, (h11.2.set_other (m := BBb) (by have := HPL.out; omega) 0 _).set_other (m := BBb) (by have := HPL.out; omega) 1 _⟩ (fun h12 => ?_)
                clear hK K d0 d1 d2 d3 d4
                try simp only [Act.put, List.getElem_toArray, List.getElem_cons_succ, List.getElem_cons_zero, List.setIfInBounds_toArray, List.set_cons_zero, List.set_cons_succ]
                have HPB := Lib.hid (show Box ((w11.setCell ⟨BBb, 0, none⟩ (.int .i64 (y + x + high))).setCell ⟨BBb, 1, none⟩ (.int .i64 0)) BBb [.int .i64 (y + x + high), .int .i64 0] from (HPB.out.set 0 (.int .i64 (y + x + high)) (by simp)).set 1 (.int .i64 0) (by simp))
                have HI5 := Lib.hid (ints_set (ints_set HI5.out HNI.out 0 (.int .i64 (y + x + high))) HNI.out 1 (.int .i64 0))
                have HE3 := Lib.hid ((HE3.out.set_other (m := BBb) HBB.out.symm 0 (.int .i64 (y + x + high))).set_other (m := BBb) HBB.out.symm 1 (.int .i64 0))
                have HI3 := Lib.hid (ints_set (ints_set HI3.out HN3.out 0 (.int .i64 (y + x + high))) HN3.out 1 (.int .i64 0))
                generalize (w11.setCell ⟨BBb, 0, none⟩ (.int .i64 (y + x + high))).setCell ⟨BBb, 1, none⟩ (.int .i64 0) = w12 at h12 HE3 HI3 HPB HI5 ⊢
                refine wpAnyH_take (i := 11) (v := ?_) rfl (by kernel_rfl) (by kernel_rfl) (by kernel_rfl) (fun _ _ _ h => h) (Or.inl ⟨by rfl, ?_⟩) h12 ?_
                rotate_left
                · intro w hSw; obtain ⟨hSw, hSp⟩ := hSw; obtain ⟨⟨g0, g1, g2⟩, _⟩ := hSp.of3; go_simp; with_reducible rfl
                try simp only [Act.put, List.getElem_toArray, List.getElem_cons_succ, List.getElem_cons_zero, List.setIfInBounds_toArray, List.set_cons_zero, List.set_cons_succ]
                refine wpAnyH_done (by kernel_rfl) ?_ _
                have C1 := Lib.hid (show ∀ p' : OnW w12, Calls Try.prog 10 #[.slice A6a 1 c6a, .slice A6b 1 c6b] p'.w fun e w' => e = .returned (.bool true) ∧ Below p'.w.heap.size p'.w w' from fun p' => rnumbers_to (v := true) (by simp) (ints_on HI3.out p'.h) (ints_on HI5.out p'.h))
                have C2 := Lib.hid (show ∀ p' : OnW w12, Calls Try.prog 19 #[.int .i64 (y + x + high), .int .i64 0] p'.w fun e w' => e = .returned (.agg #[.int .i64 (y + x + high), .int .i64 0]) ∧ Below p'.w.heap.size p'.w w' from fun p' => pen_to _ _ _)
                have C3 := Lib.hid (show ∀ p' : OnW w12, Calls Try.prog 7 #[] p'.w fun e w' => e = .returned (.bool true) ∧ Below p'.w.heap.size p'.w w' from fun p' => mawake_any HH.out _)
                have HX9 := Lib.hid (HX.out.below h12.1)
                have HB := Lib.hid (below_then HB.out h12.1)
                obtain ⟨k0, k1⟩ := OnW.of2 HX9.out
                obtain ⟨j2, j3⟩ := OnW.of2 HE3.out
                obtain ⟨d0, d1⟩ := OnW.of2 HPB.out
                obtain ⟨b9, o9, z9, e9, hz9, hc9⟩ := ints_get HI3.out (show 0 < 1 by decide)
                subst e9
                obtain rfl : y + x = z9 := by injection hz9
                rw [Nat.add_zero] at hc9
                have d9 := OnW.cell hc9
                have he := pn_same
                clear hc9 hz9
                go_wp2_with fail
                refine wp_region_on (by kernel_rfl) (by kernel_rfl) ?_
                repeat (go_big_quiet_step ((first
                    | (go_at_call 10; with_reducible exact Calls.on_of (C1.out _))
                    | (go_at_call 19; with_reducible exact Calls.on_of (C2.out _))
                    | (go_at_call 7; with_reducible exact Calls.on_of (C3.out _)))))
                refine wpQuiet_nil ?_
                intro w99 hw'
                obtain ⟨⟨w', hOn⟩, hw''⟩ := hw'
                obtain rfl : w99 = w' := hw''
                have HB9 := Lib.hid (below_then HB.out hOn)
                clear hOn k0 k1 j2 j3 d0 d1 d9
                go_wp2_with fail
                go_ret
                exact ⟨rfl, HB9.out⟩
          · go_simp
            refine hK.out _ _ ⟨On.alloc h1.1 _, h1.2.alloc _⟩ (fun h2 => ?_)
            clear hK K
            try simp only [Act.put, List.getElem_toArray, List.getElem_cons_succ, List.getElem_cons_zero, List.setIfInBounds_toArray, List.set_cons_zero, List.set_cons_succ]
            have hbz : Below w1.heap.size w1 (w1.alloc (.cells #[.int .i64 0, .int .i64 0] 23)) := (Below.refl _ _).alloc (Nat.le_refl _) _
            have HPB := Lib.hid (Box.new2 w1 (.int .i64 0) (.int .i64 0) 23)
            have HPL := Lib.hid (show BP < w1.heap.size from h1.2.lt)
            have HOl := Lib.hid (owns_below HOl.out hbz)
            have HOo := Lib.hid (owns_below HOo.out hbz)
            clear hbz
            generalize w1.heap.size = BBa at HPB HPL ⊢
            generalize w1.alloc (.cells #[.int .i64 0, .int .i64 0] 23) = w2 at h2 HOl HOo HPB ⊢
            refine wpAnyH_ready (rs := [3]) (by kernel_rfl) (by simp) ?_
            refine AllReadyH.cons rfl (fun K hK => ?_) AllReadyH.nil
            go_simp
            refine hK.out _ _ ⟨On.alloc h2.1 _, h2.2.alloc _⟩ (fun h3 => ?_)
            clear hK K
            try simp only [Act.put, List.getElem_toArray, List.getElem_cons_succ, List.getElem_cons_zero, List.setIfInBounds_toArray, List.set_cons_zero, List.set_cons_succ]
            have hbz : Below w2.heap.size w2 (w2.alloc (.cells #[.int .i64 4, .int .i64 high, .int .i64 0] 33)) := (Below.refl _ _).alloc (Nat.le_refl _) _
            have HCS := Lib.hid (cells_st w2 33 4 high 0)
            have HOl := Lib.hid (owns_below HOl.out hbz)
            have HOo := Lib.hid (owns_below HOo.out hbz)
            have HPB := Lib.hid (HPB.out.below hbz)
            clear hbz
            generalize w2.heap.size = BS at HCS ⊢
            generalize w2.alloc (.cells #[.int .i64 4, .int .i64 high, .int .i64 0] 33) = w3 at h3 HOl HOo HPB HCS ⊢
            refine wpAnyH_ready (rs := [4]) (by kernel_rfl) (by simp) ?_
            refine AllReadyH.cons rfl (fun K hK => ?_) AllReadyH.nil
            refine step_append_cells _ rfl (.tmp 79) (.tmp 81) _ rfl V.heap.size 33 i0 (.agg #[.int .i64 0, .int .i64 0, .int .i64 0]) 3 24 Try.underlying24 hi0 hz0 hz1 hz2 rfl (by decide) (.slice A1 k c1) k _ rfl HOl.out _ 1 1 _ rfl HCS.out (encSt_one ⟨_, _, _⟩) (by unfold maxLen; omega) (by omega) (Below.size h3.1) ?_
            intro A5 c5 w4 hown5 hg5
            refine hK.out _ _ ⟨Below.grown h3.1 hg5 (Below.size h3.1) (fun r e => owns_block HOl.out r e), h3.2.grown hg5 (fun r e => Nat.ne_of_lt (HLT1.out r e))⟩ (fun h4 => ?_)
            clear hK K
            try simp only [Act.put, List.getElem_toArray, List.getElem_cons_succ, List.getElem_cons_zero, List.setIfInBounds_toArray, List.set_cons_zero, List.set_cons_succ]
            have HR5 := Lib.hid (ownsRow_rows (enc := encSt) (zs := p1 ++ [⟨4, high, 0⟩]) encSt_len (by decide) (by rw [List.flatMap_append]; exact hown5))
            have HOo := Lib.hid (owns_other HAP.out HOo.out hg5)
            have HPB := Lib.hid (HPB.out.grown hg5 (fun r e => by have := HLT1.out r e; have := HPL.out; omega))
            clear hown5 hg5
            refine wpAnyH_ready (rs := [5]) (by kernel_rfl) (by simp) ?_
            refine AllReadyH.cons rfl (fun K hK => ?_) AllReadyH.nil
            go_simp
            refine (HH.out.run E1.out E2.out HY.out HM.out N1.out (by omega) HR5.out).mono ?_
            rintro e w5 ⟨A6a, n6, c6a, rfl, hn6, hI6, hb6, hf6⟩
            obtain rfl : n6 = 1 := hn6
            refine hK.out _ _ ⟨On.step h4.1 hb6, h4.2.below hb6⟩ (fun h5 => ?_)
            clear hK K
            try simp only [Act.put, List.getElem_toArray, List.getElem_cons_succ, List.getElem_cons_zero, List.setIfInBounds_toArray, List.set_cons_zero, List.set_cons_succ]
            have HF3 := Lib.hid (show ∀ q, A6a = some q → BP < q.block from fun q e => Nat.lt_of_lt_of_le h4.2.lt (hf6 q e))
            have HNI := Lib.hid (show ∀ q, A6a = some q → q.block ≠ BBa from fun q e => Nat.ne_of_gt (Nat.lt_of_lt_of_le HPB.out.lt (hf6 q e)))
            have HOo := Lib.hid (owns_below HOo.out hb6)
            have HPB := Lib.hid (HPB.out.below hb6)
            have HI5 := Lib.hid hI6
            clear hI6 hb6 hf6
            refine wpAnyH_take (i := 6) (v := ?_) rfl (by kernel_rfl) (by kernel_rfl) (by kernel_rfl) (fun _ _ _ h => h) (Or.inl ⟨by rfl, ?_⟩) h5 ?_
            rotate_left
            · intro w hSw; obtain ⟨hSw, hSp⟩ := hSw; obtain ⟨⟨g0, g1, g2⟩, _⟩ := hSp.of3; go_simp; with_reducible rfl
            try simp only [Act.put, List.getElem_toArray, List.getElem_cons_succ, List.getElem_cons_zero, List.setIfInBounds_toArray, List.set_cons_zero, List.set_cons_succ]
            refine wpAnyH_take (i := 7) (v := ?_) rfl (by kernel_rfl) (by kernel_rfl) (by kernel_rfl) (fun _ _ _ h => h) (Or.inl ⟨by rfl, ?_⟩) h5 ?_
            rotate_left
            · intro w hSw; obtain ⟨hSw, hSp⟩ := hSw; obtain ⟨⟨g0, g1, g2⟩, _⟩ := hSp.of3; go_simp; with_reducible rfl
            try simp only [Act.put, List.getElem_toArray, List.getElem_cons_succ, List.getElem_cons_zero, List.setIfInBounds_toArray, List.set_cons_zero, List.set_cons_succ]
            refine wpAnyH_take (i := 8) (v := ?_) rfl (by kernel_rfl) (by kernel_rfl) (by kernel_rfl) (fun _ _ _ h => h) (Or.inl ⟨by rfl, ?_⟩) h5 ?_
            rotate_left
            · intro w hSw; obtain ⟨hSw, hSp⟩ := hSw; obtain ⟨⟨g0, g1, g2⟩, _⟩ := hSp.of3; go_simp; with_reducible rfl
            try simp only [Act.put, List.getElem_toArray, List.getElem_cons_succ, List.getElem_cons_zero, List.setIfInBounds_toArray, List.set_cons_zero, List.set_cons_succ]
            refine wpAnyH_ready (rs := [10]) (by kernel_rfl) (by simp) ?_
            refine AllReadyH.cons rfl (fun K hK => ?_) AllReadyH.nil
            obtain ⟨d0, d1, d2, d3, d4⟩ := HPB.out.of2
            go_simp
            refine hK.out _ _ ⟨On.set (On.set h5.1 (by have := HPL.out; have := HVB.out; omega) _) (by have := HPL.out; have := HVB.out; omega) _, (h5.2.set_other (m := BBa) (by have := HPL.out; omega) 0 _).set_other (m := BBa) (by have := HPL.out; omega) 1 _⟩ (fun h6 => ?_)
            clear hK K d0 d1 d2 d3 d4
            try simp only [Act.put, List.getElem_toArray, List.getElem_cons_succ, List.getElem_cons_zero, List.setIfInBounds_toArray, List.set_cons_zero, List.set_cons_succ]
            have HPB := Lib.hid (show Box ((w5.setCell ⟨BBa, 0, none⟩ (.int .i64 (y + x + high))).setCell ⟨BBa, 1, none⟩ (.int .i64 0)) BBa [.int .i64 (y + x + high), .int .i64 0] from (HPB.out.set 0 (.int .i64 (y + x + high)) (by simp)).set 1 (.int .i64 0) (by simp))
            have HI5 := Lib.hid (ints_set (ints_set HI5.out HNI.out 0 (.int .i64 (y + x + high))) HNI.out 1 (.int .i64 0))
            have HOo := Lib.hid (owns_off13 (owns_off13 HOo.out (m := BBa) (fun r e => by have := HLT2.out r e; have := HPL.out; omega) 0 (.int .i64 (y + x + high))) (m := BBa) (fun r e => by have := HLT2.out r e; have := HPL.out; omega) 1 (.int .i64 0))
            generalize (w5.setCell ⟨BBa, 0, none⟩ (.int .i64 (y + x + high))).setCell ⟨BBa, 1, none⟩ (.int .i64 0) = w6 at h6 HOo HPB HI5 ⊢
            refine wpAnyH_take (i := 11) (v := ?_) rfl (by kernel_rfl) (by kernel_rfl) (by kernel_rfl) (fun _ _ _ h => h) (Or.inl ⟨by rfl, ?_⟩) h6 ?_
            rotate_left
            · intro w hSw; obtain ⟨hSw, hSp⟩ := hSw; obtain ⟨⟨g0, g1, g2⟩, _⟩ := hSp.of3; go_simp; with_reducible rfl
            try simp only [Act.put, List.getElem_toArray, List.getElem_cons_succ, List.getElem_cons_zero, List.setIfInBounds_toArray, List.set_cons_zero, List.set_cons_succ]
            refine wpAnyH_done (by kernel_rfl) ?_ _
            have HE3 := Lib.hid HPB.out
            have HI3 := Lib.hid HI5.out
            have HOl := Lib.hid HOo.out
            have HPLa := Lib.hid HPL.out
            clear HPB HI5 HOo HPL HNI
            go_wp2_with fail
            refine Go.wp_region_held_drew (S := fun W' => On V W' ∧ Box W' BP [.int .i64 4, .int .i64 high, .int .i64 0]) (by kernel_rfl) ⟨h6.1.drew, h6.2.drew⟩ (fun h7 => ?_)
            show wpAnyH _ _ _ _ _ 12 (Array.replicate 12 false) _ _
            have hbz : Below w6.heap.size w6 w6.drew := (Below.refl _ _).drew
            have HOl := Lib.hid (owns_below HOl.out hbz)
            have HE3 := Lib.hid (HE3.out.below hbz)
            have HI3 := Lib.hid (ints_on HI3.out hbz)
            clear hbz
            generalize w6.drew = w7 at h7 HOl HE3 HI3 ⊢
            refine wpAnyH_take (i := 0) (v := ?_) rfl (by kernel_rfl) (by kernel_rfl) (by kernel_rfl) (fun _ _ _ h => h) (Or.inl ⟨by rfl, ?_⟩) h7 ?_
            rotate_left
            · intro w hSw; obtain ⟨hSw, hSp⟩ := hSw; obtain ⟨⟨g0, g1, g2⟩, _⟩ := hSp.of3; go_simp; with_reducible rfl
            try simp only [Act.put, List.getElem_toArray, List.getElem_cons_succ, List.getElem_cons_zero, List.setIfInBounds_toArray, List.set_cons_zero, List.set_cons_succ]
            refine wpAnyH_take (i := 1) (v := ?_) rfl (by kernel_rfl) (by kernel_rfl) (by kernel_rfl) (fun _ _ _ h => h) (Or.inl ⟨by rfl, ?_⟩) h7 ?_
            rotate_left
            · intro w hSw; obtain ⟨hSw, hSp⟩ := hSw; obtain ⟨⟨g0, g1, g2⟩, _⟩ := hSp.of3; go_simp; with_reducible rfl
            try simp only [Act.put, List.getElem_toArray, List.getElem_cons_succ, List.getElem_cons_zero, List.setIfInBounds_toArray, List.set_cons_zero, List.set_cons_succ]
            refine wpAnyH_take (i := 2) (v := ?_) rfl (by kernel_rfl) (by kernel_rfl) (by kernel_rfl) (fun _ _ _ h => h) (Or.inl ⟨by rfl, ?_⟩) h7 ?_
            rotate_left
            · intro w hSw; obtain ⟨hSw, hSp⟩ := hSw; obtain ⟨⟨g0, g1, g2⟩, _⟩ := hSp.of3; go_simp; with_reducible rfl
            try simp only [Act.put, List.getElem_toArray, List.getElem_cons_succ, List.getElem_cons_zero, List.setIfInBounds_toArray, List.set_cons_zero, List.set_cons_succ]
            refine wpAnyH_ready (rs := [3, 9]) (by kernel_rfl) (by simp) ?_
            refine AllReadyH.cons rfl (fun K hK => ?_) (AllReadyH.cons rfl (fun K hK => ?_) AllReadyH.nil)
            · go_simp
              refine hK.out _ _ ⟨On.alloc h7.1 _, h7.2.alloc _⟩ (fun h8 => ?_)
              clear hK K
              try simp only [Act.put, List.getElem_toArray, List.getElem_cons_succ, List.getElem_cons_zero, List.setIfInBounds_toArray, List.set_cons_zero, List.set_cons_succ]
              have hbz : Below w7.heap.size w7 (w7.alloc (.cells #[.int .i64 4, .int .i64 high, .int .i64 0] 33)) := (Below.refl _ _).alloc (Nat.le_refl _) _
              have HCS := Lib.hid (cells_st w7 33 4 high 0)
              have HOl := Lib.hid (owns_below HOl.out hbz)
              have HE3 := Lib.hid (HE3.out.below hbz)
              have HI3 := Lib.hid (ints_on HI3.out hbz)
              clear hbz
              generalize w7.heap.size = BS at HCS ⊢
              generalize w7.alloc (.cells #[.int .i64 4, .int .i64 high, .int .i64 0] 33) = w8 at h8 HOl HE3 HI3 HCS ⊢
              refine wpAnyH_ready (rs := [4, 9]) (by kernel_rfl) (by simp) ?_
              refine AllReadyH.cons rfl (fun K hK => ?_) (AllReadyH.cons rfl (fun K hK => ?_) AllReadyH.nil)
              · refine step_append_cells _ rfl (.tmp 88) (.tmp 90) _ rfl V.heap.size 33 i0 (.agg #[.int .i64 0, .int .i64 0, .int .i64 0]) 3 24 Try.underlying24 hi0 hz0 hz1 hz2 rfl (by decide) (.slice A2 k c2) k _ rfl HOl.out _ 1 1 _ rfl HCS.out (encSt_one ⟨_, _, _⟩) (by unfold maxLen; omega) (by omega) (Below.size h8.1) ?_
                intro A5 c5 w9 hown5 hg5
                refine hK.out _ _ ⟨Below.grown h8.1 hg5 (Below.size h8.1) (fun r e => owns_block HOl.out r e), h8.2.grown hg5 (fun r e => Nat.ne_of_lt (HLT2.out r e))⟩ (fun h9 => ?_)
                clear hK K
                try simp only [Act.put, List.getElem_toArray, List.getElem_cons_succ, List.getElem_cons_zero, List.setIfInBounds_toArray, List.set_cons_zero, List.set_cons_succ]
                have HR5 := Lib.hid (ownsRow_rows (enc := encSt) (zs := p2 ++ [⟨4, high, 0⟩]) encSt_len (by decide) (by rw [List.flatMap_append]; exact hown5))
                have HE3 := Lib.hid (HE3.out.grown hg5 (fun r e => by have := HLT2.out r e; have := HPLa.out; omega))
                have HI3 := Lib.hid (ints_grown HI3.out hg5 (fun q e r e2 => by have := HLT2.out r e2; have := HF3.out q e; omega))
                clear hown5 hg5
                refine wpAnyH_ready (rs := [5, 9]) (by kernel_rfl) (by simp) ?_
                refine AllReadyH.cons rfl (fun K hK => ?_) (AllReadyH.cons rfl (fun K hK => ?_) AllReadyH.nil)
                · go_simp
                  refine (HH.out.run E3.out E4.out HY.out HM.out N2.out (by omega) HR5.out).mono ?_
                  rintro e w10 ⟨A6b, n6, c6b, rfl, hn6, hI6, hb6, hf6⟩
                  obtain rfl : n6 = 1 := hn6
                  refine hK.out _ _ ⟨On.step h9.1 hb6, h9.2.below hb6⟩ (fun h10 => ?_)
                  clear hK K
                  try simp only [Act.put, List.getElem_toArray, List.getElem_cons_succ, List.getElem_cons_zero, List.setIfInBounds_toArray, List.set_cons_zero, List.set_cons_succ]
                  have HF4 := Lib.hid (show ∀ q, A6b = some q → BP < q.block from fun q e => Nat.lt_of_lt_of_le h9.2.lt (hf6 q e))
                  have HE3 := Lib.hid (HE3.out.below hb6)
                  have HI3 := Lib.hid (ints_on HI3.out hb6)
                  have HI5 := Lib.hid hI6
                  clear hI6 hb6 hf6
                  refine wpAnyH_take (i := 6) (v := ?_) rfl (by kernel_rfl) (by kernel_rfl) (by kernel_rfl) (fun _ _ _ h => h) (Or.inl ⟨by rfl, ?_⟩) h10 ?_
                  rotate_left
                  · intro w hSw; obtain ⟨hSw, hSp⟩ := hSw; obtain ⟨⟨g0, g1, g2⟩, _⟩ := hSp.of3; go_simp; with_reducible rfl
                  try simp only [Act.put, List.getElem_toArray, List.getElem_cons_succ, List.getElem_cons_zero, List.setIfInBounds_toArray, List.set_cons_zero, List.set_cons_succ]
                  refine wpAnyH_take (i := 7) (v := ?_) rfl (by kernel_rfl) (by kernel_rfl) (by kernel_rfl) (fun _ _ _ h => h) (Or.inl ⟨by rfl, ?_⟩) h10 ?_
                  rotate_left
                  · intro w hSw; obtain ⟨hSw, hSp⟩ := hSw; obtain ⟨⟨g0, g1, g2⟩, _⟩ := hSp.of3; go_simp; with_reducible rfl
                  try simp only [Act.put, List.getElem_toArray, List.getElem_cons_succ, List.getElem_cons_zero, List.setIfInBounds_toArray, List.set_cons_zero, List.set_cons_succ]
                  refine wpAnyH_take (i := 8) (v := ?_) rfl (by kernel_rfl) (by kernel_rfl) (by kernel_rfl) (fun _ _ _ h => h) (Or.inl ⟨by rfl, ?_⟩) h10 ?_
                  rotate_left
                  · intro w hSw; obtain ⟨hSw, hSp⟩ := hSw; obtain ⟨⟨g0, g1, g2⟩, _⟩ := hSp.of3; go_simp; with_reducible rfl
                  try simp only [Act.put, List.getElem_toArray, List.getElem_cons_succ, List.getElem_cons_zero, List.setIfInBounds_toArray, List.set_cons_zero, List.set_cons_succ]
                  refine wpAnyH_ready (rs := [9]) (by kernel_rfl) (by simp) ?_
                  refine AllReadyH.cons rfl (fun K hK => ?_) AllReadyH.nil
                  go_simp
                  refine hK.out _ _ ⟨On.alloc h10.1 _, h10.2.alloc _⟩ (fun h11 => ?_)
                  clear hK K
                  try simp only [Act.put, List.getElem_toArray, List.getElem_cons_succ, List.getElem_cons_zero, List.setIfInBounds_toArray, List.set_cons_zero, List.set_cons_succ]
                  have hbz : Below w10.heap.size w10 (w10.alloc (.cells #[.int .i64 0, .int .i64 0] 23)) := (Below.refl _ _).alloc (Nat.le_refl _) _
                  have HPB := Lib.hid (Box.new2 w10 (.int .i64 0) (.int .i64 0) 23)
                  have HPL := Lib.hid (show BP < w10.heap.size from h10.2.lt)
                  have HNI := Lib.hid (show ∀ q, A6b = some q → q.block ≠ w10.heap.size from fun q e => Nat.ne_of_lt (ints_lt HI5.out (by decide) q e))
                  have HBB := Lib.hid (show BBa ≠ w10.heap.size from Nat.ne_of_lt HE3.out.lt)
                  have HN3 := Lib.hid (show ∀ q, A6a = some q → q.block ≠ w10.heap.size from fun q e => Nat.ne_of_lt (ints_lt HI3.out (by decide) q e))
                  have HE3 := Lib.hid (HE3.out.below hbz)
                  have HI3 := Lib.hid (ints_on HI3.out hbz)
                  have HI5 := Lib.hid (ints_on HI5.out hbz)
                  clear hbz
                  generalize w10.heap.size = BBb at HPB HPL HNI HN3 HBB ⊢
                  generalize w10.alloc (.cells #[.int .i64 0, .int .i64 0] 23) = w11 at h11 HE3 HI3 HI5 HPB ⊢
                  refine wpAnyH_ready (rs := [10]) (by kernel_rfl) (by simp) ?_
                  refine AllReadyH.cons rfl (fun K hK => ?_) AllReadyH.nil
                  obtain ⟨d0, d1, d2, d3, d4⟩ := HPB.out.of2
                  go_simp
                  refine hK.out _ _ ⟨On.set (On.set h11.1 (by have := HPL.out; have := HVB.out; omega) _) (by have := HPL.out; have := HVB.out; omega) _, (h11.2.set_other (m := BBb) (by have := HPL.out; omega) 0 _).set_other (m := BBb) (by have := HPL.out; omega) 1 _⟩ (fun h12 => ?_)
                  clear hK K d0 d1 d2 d3 d4
                  try simp only [Act.put, List.getElem_toArray, List.getElem_cons_succ, List.getElem_cons_zero, List.setIfInBounds_toArray, List.set_cons_zero, List.set_cons_succ]
                  have HPB := Lib.hid (show Box ((w11.setCell ⟨BBb, 0, none⟩ (.int .i64 (y + x + high))).setCell ⟨BBb, 1, none⟩ (.int .i64 0)) BBb [.int .i64 (y + x + high), .int .i64 0] from (HPB.out.set 0 (.int .i64 (y + x + high)) (by simp)).set 1 (.int .i64 0) (by simp))
                  have HI5 := Lib.hid (ints_set (ints_set HI5.out HNI.out 0 (.int .i64 (y + x + high))) HNI.out 1 (.int .i64 0))
                  have HE3 := Lib.hid ((HE3.out.set_other (m := BBb) HBB.out.symm 0 (.int .i64 (y + x + high))).set_other (m := BBb) HBB.out.symm 1 (.int .i64 0))
                  have HI3 := Lib.hid (ints_set (ints_set HI3.out HN3.out 0 (.int .i64 (y + x + high))) HN3.out 1 (.int .i64 0))
                  generalize (w11.setCell ⟨BBb, 0, none⟩ (.int .i64 (y + x + high))).setCell ⟨BBb, 1, none⟩ (.int .i64 0) = w12 at h12 HE3 HI3 HI5 HPB ⊢
                  refine wpAnyH_take (i := 11) (v := ?_) rfl (by kernel_rfl) (by kernel_rfl) (by kernel_rfl) (fun _ _ _ h => h) (Or.inl ⟨by rfl, ?_⟩) h12 ?_
                  rotate_left
                  · intro w hSw; obtain ⟨hSw, hSp⟩ := hSw; obtain ⟨⟨g0, g1, g2⟩, _⟩ := hSp.of3; go_simp; with_reducible rfl
                  try simp only [Act.put, List.getElem_toArray, List.getElem_cons_succ, List.getElem_cons_zero, List.setIfInBounds_toArray, List.set_cons_zero, List.set_cons_succ]
                  refine wpAnyH_done (by kernel_rfl) ?_ _
                  have C1 := Lib.hid (show ∀ p' : OnW w12, Calls Try.prog 10 #[.slice A6a 1 c6a, .slice A6b 1 c6b] p'.w fun e w' => e = .returned (.bool true) ∧ Below p'.w.heap.size p'.w w' from fun p' => rnumbers_to (v := true) (by simp) (ints_on HI3.out p'.h) (ints_on HI5.out p'.h))
                  have C2 := Lib.hid (show ∀ p' : OnW w12, Calls Try.prog 19 #[.int .i64 (y + x + high), .int .i64 0] p'.w fun e w' => e = .returned (.agg #[.int .i64 (y + x + high), .int .i64 0]) ∧ Below p'.w.heap.size p'.w w' from fun p' => pen_to _ _ _)
                  have C3 := Lib.hid (show ∀ p' : OnW w12, Calls Try.prog 7 #[] p'.w fun e w' => e = .returned (.bool true) ∧ Below p'.w.heap.size p'.w w' from fun p' => mawake_any HH.out _)
                  have HX9 := Lib.hid (HX.out.below h12.1)
                  have HB := Lib.hid (below_then HB.out h12.1)
                  obtain ⟨k0, k1⟩ := OnW.of2 HX9.out
                  obtain ⟨j2, j3⟩ := OnW.of2 HE3.out
                  obtain ⟨d0, d1⟩ := OnW.of2 HPB.out
                  obtain ⟨b9, o9, z9, e9, hz9, hc9⟩ := ints_get HI3.out (show 0 < 1 by decide)
                  subst e9
                  obtain rfl : y + x = z9 := by injection hz9
                  rw [Nat.add_zero] at hc9
                  have d9 := OnW.cell hc9
                  have he := pn_same
                  clear hc9 hz9
                  go_wp2_with fail
                  refine wp_region_on (by kernel_rfl) (by kernel_rfl) ?_
                  repeat (go_big_quiet_step ((first
                      | (go_at_call 10; with_reducible exact Calls.on_of (C1.out _))
                      | (go_at_call 19; with_reducible exact Calls.on_of (C2.out _))
                      | (go_at_call 7; with_reducible exact Calls.on_of (C3.out _)))))
                  refine wpQuiet_nil ?_
                  intro w99 hw'
                  obtain ⟨⟨w', hOn⟩, hw''⟩ := hw'
                  obtain rfl : w99 = w' := hw''
                  have HB9 := Lib.hid (below_then HB.out hOn)
                  clear hOn k0 k1 j2 j3 d0 d1 d9
                  go_wp2_with fail
                  go_ret
                  exact ⟨rfl, HB9.out⟩
                · go_simp
                  refine hK.out _ _ ⟨On.alloc h9.1 _, h9.2.alloc _⟩ (fun h10 => ?_)
                  clear hK K
                  try simp only [Act.put, List.getElem_toArray, List.getElem_cons_succ, List.getElem_cons_zero, List.setIfInBounds_toArray, List.set_cons_zero, List.set_cons_succ]
                  have hbz : Below w9.heap.size w9 (w9.alloc (.cells #[.int .i64 0, .int .i64 0] 23)) := (Below.refl _ _).alloc (Nat.le_refl _) _
                  have HPB := Lib.hid (Box.new2 w9 (.int .i64 0) (.int .i64 0) 23)
                  have HPL := Lib.hid (show BP < w9.heap.size from h9.2.lt)
                  have HBB := Lib.hid (show BBa ≠ w9.heap.size from Nat.ne_of_lt HE3.out.lt)
                  have HN3 := Lib.hid (show ∀ q, A6a = some q → q.block ≠ w9.heap.size from fun q e => Nat.ne_of_lt (ints_lt HI3.out (by decide) q e))
                  have HE3 := Lib.hid (HE3.out.below hbz)
                  have HI3 := Lib.hid (ints_on HI3.out hbz)
                  have HR5 := Lib.hid (HR5.out.below hbz)
                  clear hbz
                  generalize w9.heap.size = BBb at HPB HPL HN3 HBB ⊢
                  generalize w9.alloc (.cells #[.int .i64 0, .int .i64 0] 23) = w10 at h10 HE3 HI3 HR5 HPB ⊢
                  refine wpAnyH_ready (rs := [5]) (by kernel_rfl) (by simp) ?_
                  refine AllReadyH.cons rfl (fun K hK => ?_) AllReadyH.nil
                  go_simp
                  refine (HH.out.run E3.out E4.out HY.out HM.out N2.out (by omega) HR5.out).mono ?_
                  rintro e w11 ⟨A6b, n6, c6b, rfl, hn6, hI6, hb6, hf6⟩
                  obtain rfl : n6 = 1 := hn6
                  refine hK.out _ _ ⟨On.step h10.1 hb6, h10.2.below hb6⟩ (fun h11 => ?_)
                  clear hK K
                  try simp only [Act.put, List.getElem_toArray, List.getElem_cons_succ, List.getElem_cons_zero, List.setIfInBounds_toArray, List.set_cons_zero, List.set_cons_succ]
                  have HF4 := Lib.hid (show ∀ q, A6b = some q → BP < q.block from fun q e => Nat.lt_of_lt_of_le h10.2.lt (hf6 q e))
                  have HNI := Lib.hid (show ∀ q, A6b = some q → q.block ≠ BBb from fun q e => Nat.ne_of_gt (Nat.lt_of_lt_of_le HPB.out.lt (hf6 q e)))
                  have HE3 := Lib.hid (HE3.out.below hb6)
                  have HI3 := Lib.hid (ints_on HI3.out hb6)
                  have HPB := Lib.hid (HPB.out.below hb6)
                  have HI5 := Lib.hid hI6
                  clear hI6 hb6 hf6
                  refine wpAnyH_take (i := 6) (v := ?_) rfl (by kernel_rfl) (by kernel_rfl) (by kernel_rfl) (fun _ _ _ h => h) (Or.inl ⟨by rfl, ?_⟩) h11 ?_
                  rotate_left
                  · intro w hSw; obtain ⟨hSw, hSp⟩ := hSw; obtain ⟨⟨g0, g1, g2⟩, _⟩ := hSp.of3; go_simp; with_reducible rfl
                  try simp only [Act.put, List.getElem_toArray, List.getElem_cons_succ, List.getElem_cons_zero, List.setIfInBounds_toArray, List.set_cons_zero, List.set_cons_succ]
                  refine wpAnyH_take (i := 7) (v := ?_) rfl (by kernel_rfl) (by kernel_rfl) (by kernel_rfl) (fun _ _ _ h => h) (Or.inl ⟨by rfl, ?_⟩) h11 ?_
                  rotate_left
                  · intro w hSw; obtain ⟨hSw, hSp⟩ := hSw; obtain ⟨⟨g0, g1, g2⟩, _⟩ := hSp.of3; go_simp; with_reducible rfl
                  try simp only [Act.put, List.getElem_toArray, List.getElem_cons_succ, List.getElem_cons_zero, List.setIfInBounds_toArray, List.set_cons_zero, List.set_cons_succ]
                  refine wpAnyH_take (i := 8) (v := ?_) rfl (by kernel_rfl) (by kernel_rfl) (by kernel_rfl) (fun _ _ _ h => h) (Or.inl ⟨by rfl, ?_⟩) h11 ?_
                  rotate_left
                  · intro w hSw; obtain ⟨hSw, hSp⟩ := hSw; obtain ⟨⟨g0, g1, g2⟩, _⟩ := hSp.of3; go_simp; with_reducible rfl
                  try simp only [Act.put, List.getElem_toArray, List.getElem_cons_succ, List.getElem_cons_zero, List.setIfInBounds_toArray, List.set_cons_zero, List.set_cons_succ]
                  refine wpAnyH_ready (rs := [10]) (by kernel_rfl) (by simp) ?_
                  refine AllReadyH.cons rfl (fun K hK => ?_) AllReadyH.nil
                  obtain ⟨d0, d1, d2, d3, d4⟩ := HPB.out.of2
                  go_simp
                  refine hK.out _ _ ⟨On.set (On.set h11.1 (by have := HPL.out; have := HVB.out; omega) _) (by have := HPL.out; have := HVB.out; omega) _, (h11.2.set_other (m := BBb) (by have := HPL.out; omega) 0 _).set_other (m := BBb) (by have := HPL.out; omega) 1 _⟩ (fun h12 => ?_)
                  clear hK K d0 d1 d2 d3 d4
                  try simp only [Act.put, List.getElem_toArray, List.getElem_cons_succ, List.getElem_cons_zero, List.setIfInBounds_toArray, List.set_cons_zero, List.set_cons_succ]
                  have HPB := Lib.hid (show Box ((w11.setCell ⟨BBb, 0, none⟩ (.int .i64 (y + x + high))).setCell ⟨BBb, 1, none⟩ (.int .i64 0)) BBb [.int .i64 (y + x + high), .int .i64 0] from (HPB.out.set 0 (.int .i64 (y + x + high)) (by simp)).set 1 (.int .i64 0) (by simp))
                  have HI5 := Lib.hid (ints_set (ints_set HI5.out HNI.out 0 (.int .i64 (y + x + high))) HNI.out 1 (.int .i64 0))
                  have HE3 := Lib.hid ((HE3.out.set_other (m := BBb) HBB.out.symm 0 (.int .i64 (y + x + high))).set_other (m := BBb) HBB.out.symm 1 (.int .i64 0))
                  have HI3 := Lib.hid (ints_set (ints_set HI3.out HN3.out 0 (.int .i64 (y + x + high))) HN3.out 1 (.int .i64 0))
                  generalize (w11.setCell ⟨BBb, 0, none⟩ (.int .i64 (y + x + high))).setCell ⟨BBb, 1, none⟩ (.int .i64 0) = w12 at h12 HE3 HI3 HPB HI5 ⊢
                  refine wpAnyH_take (i := 11) (v := ?_) rfl (by kernel_rfl) (by kernel_rfl) (by kernel_rfl) (fun _ _ _ h => h) (Or.inl ⟨by rfl, ?_⟩) h12 ?_
                  rotate_left
                  · intro w hSw; obtain ⟨hSw, hSp⟩ := hSw; obtain ⟨⟨g0, g1, g2⟩, _⟩ := hSp.of3; go_simp; with_reducible rfl
                  try simp only [Act.put, List.getElem_toArray, List.getElem_cons_succ, List.getElem_cons_zero, List.setIfInBounds_toArray, List.set_cons_zero, List.set_cons_succ]
                  refine wpAnyH_done (by kernel_rfl) ?_ _
                  have C1 := Lib.hid (show ∀ p' : OnW w12, Calls Try.prog 10 #[.slice A6a 1 c6a, .slice A6b 1 c6b] p'.w fun e w' => e = .returned (.bool true) ∧ Below p'.w.heap.size p'.w w' from fun p' => rnumbers_to (v := true) (by simp) (ints_on HI3.out p'.h) (ints_on HI5.out p'.h))
                  have C2 := Lib.hid (show ∀ p' : OnW w12, Calls Try.prog 19 #[.int .i64 (y + x + high), .int .i64 0] p'.w fun e w' => e = .returned (.agg #[.int .i64 (y + x + high), .int .i64 0]) ∧ Below p'.w.heap.size p'.w w' from fun p' => pen_to _ _ _)
                  have C3 := Lib.hid (show ∀ p' : OnW w12, Calls Try.prog 7 #[] p'.w fun e w' => e = .returned (.bool true) ∧ Below p'.w.heap.size p'.w w' from fun p' => mawake_any HH.out _)
                  have HX9 := Lib.hid (HX.out.below h12.1)
                  have HB := Lib.hid (below_then HB.out h12.1)
                  obtain ⟨k0, k1⟩ := OnW.of2 HX9.out
                  obtain ⟨j2, j3⟩ := OnW.of2 HE3.out
                  obtain ⟨d0, d1⟩ := OnW.of2 HPB.out
                  obtain ⟨b9, o9, z9, e9, hz9, hc9⟩ := ints_get HI3.out (show 0 < 1 by decide)
                  subst e9
                  obtain rfl : y + x = z9 := by injection hz9
                  rw [Nat.add_zero] at hc9
                  have d9 := OnW.cell hc9
                  have he := pn_same
                  clear hc9 hz9
                  go_wp2_with fail
                  refine wp_region_on (by kernel_rfl) (by kernel_rfl) ?_
                  repeat (go_big_quiet_step ((first
                      | (go_at_call 10; with_reducible exact Calls.on_of (C1.out _))
                      | (go_at_call 19; with_reducible exact Calls.on_of (C2.out _))
                      | (go_at_call 7; with_reducible exact Calls.on_of (C3.out _)))))
                  refine wpQuiet_nil ?_
                  intro w99 hw'
                  obtain ⟨⟨w', hOn⟩, hw''⟩ := hw'
                  obtain rfl : w99 = w' := hw''
                  have HB9 := Lib.hid (below_then HB.out hOn)
                  clear hOn k0 k1 j2 j3 d0 d1 d9
                  go_wp2_with fail
                  go_ret
                  exact ⟨rfl, HB9.out⟩
              · go_simp
                refine hK.out _ _ ⟨On.alloc h8.1 _, h8.2.alloc _⟩ (fun h9 => ?_)
                clear hK K
                try simp only [Act.put, List.getElem_toArray, List.getElem_cons_succ, List.getElem_cons_zero, List.setIfInBounds_toArray, List.set_cons_zero, List.set_cons_succ]
                have hbz : Below w8.heap.size w8 (w8.alloc (.cells #[.int .i64 0, .int .i64 0] 23)) := (Below.refl _ _).alloc (Nat.le_refl _) _
                have HPB := Lib.hid (Box.new2 w8 (.int .i64 0) (.int .i64 0) 23)
                have HPL := Lib.hid (show BP < w8.heap.size from h8.2.lt)
                have HBB := Lib.hid (show BBa ≠ w8.heap.size from Nat.ne_of_lt HE3.out.lt)
                have HN3 := Lib.hid (show ∀ q, A6a = some q → q.block ≠ w8.heap.size from fun q e => Nat.ne_of_lt (ints_lt HI3.out (by decide) q e))
                have HOl := Lib.hid (owns_below HOl.out hbz)
                have HE3 := Lib.hid (HE3.out.below hbz)
                have HI3 := Lib.hid (ints_on HI3.out hbz)
                have HCS := Lib.hid (HCS.out.below hbz rfl)
                clear hbz
                generalize w8.heap.size = BBb at HPB HPL HN3 HBB ⊢
                generalize w8.alloc (.cells #[.int .i64 0, .int .i64 0] 23) = w9 at h9 HOl HE3 HI3 HCS HPB ⊢
                refine wpAnyH_ready (rs := [4]) (by kernel_rfl) (by simp) ?_
                refine AllReadyH.cons rfl (fun K hK => ?_) AllReadyH.nil
                refine step_append_cells _ rfl (.tmp 88) (.tmp 90) _ rfl V.heap.size 33 i0 (.agg #[.int .i64 0, .int .i64 0, .int .i64 0]) 3 24 Try.underlying24 hi0 hz0 hz1 hz2 rfl (by decide) (.slice A2 k c2) k _ rfl HOl.out _ 1 1 _ rfl HCS.out (encSt_one ⟨_, _, _⟩) (by unfold maxLen; omega) (by omega) (Below.size h9.1) ?_
                intro A5 c5 w10 hown5 hg5
                refine hK.out _ _ ⟨Below.grown h9.1 hg5 (Below.size h9.1) (fun r e => owns_block HOl.out r e), h9.2.grown hg5 (fun r e => Nat.ne_of_lt (HLT2.out r e))⟩ (fun h10 => ?_)
                clear hK K
                try simp only [Act.put, List.getElem_toArray, List.getElem_cons_succ, List.getElem_cons_zero, List.setIfInBounds_toArray, List.set_cons_zero, List.set_cons_succ]
                have HR5 := Lib.hid (ownsRow_rows (enc := encSt) (zs := p2 ++ [⟨4, high, 0⟩]) encSt_len (by decide) (by rw [List.flatMap_append]; exact hown5))
                have HPB := Lib.hid (HPB.out.grown hg5 (fun r e => by have := HLT2.out r e; have := HPL.out; omega))
                have HE3 := Lib.hid (HE3.out.grown hg5 (fun r e => by have := HLT2.out r e; have := HPLa.out; omega))
                have HI3 := Lib.hid (ints_grown HI3.out hg5 (fun q e r e2 => by have := HLT2.out r e2; have := HF3.out q e; omega))
                clear hown5 hg5
                refine wpAnyH_ready (rs := [5]) (by kernel_rfl) (by simp) ?_
                refine AllReadyH.cons rfl (fun K hK => ?_) AllReadyH.nil
                go_simp
                refine (HH.out.run E3.out E4.out HY.out HM.out N2.out (by omega) HR5.out).mono ?_
                rintro e w11 ⟨A6b, n6, c6b, rfl, hn6, hI6, hb6, hf6⟩
                obtain rfl : n6 = 1 := hn6
                refine hK.out _ _ ⟨On.step h10.1 hb6, h10.2.below hb6⟩ (fun h11 => ?_)
                clear hK K
                try simp only [Act.put, List.getElem_toArray, List.getElem_cons_succ, List.getElem_cons_zero, List.setIfInBounds_toArray, List.set_cons_zero, List.set_cons_succ]
                have HF4 := Lib.hid (show ∀ q, A6b = some q → BP < q.block from fun q e => Nat.lt_of_lt_of_le h10.2.lt (hf6 q e))
                have HNI := Lib.hid (show ∀ q, A6b = some q → q.block ≠ BBb from fun q e => Nat.ne_of_gt (Nat.lt_of_lt_of_le HPB.out.lt (hf6 q e)))
                have HE3 := Lib.hid (HE3.out.below hb6)
                have HI3 := Lib.hid (ints_on HI3.out hb6)
                have HPB := Lib.hid (HPB.out.below hb6)
                have HI5 := Lib.hid hI6
                clear hI6 hb6 hf6
                refine wpAnyH_take (i := 6) (v := ?_) rfl (by kernel_rfl) (by kernel_rfl) (by kernel_rfl) (fun _ _ _ h => h) (Or.inl ⟨by rfl, ?_⟩) h11 ?_
                rotate_left
                · intro w hSw; obtain ⟨hSw, hSp⟩ := hSw; obtain ⟨⟨g0, g1, g2⟩, _⟩ := hSp.of3; go_simp; with_reducible rfl
                try simp only [Act.put, List.getElem_toArray, List.getElem_cons_succ, List.getElem_cons_zero, List.setIfInBounds_toArray, List.set_cons_zero, List.set_cons_succ]
                refine wpAnyH_take (i := 7) (v := ?_) rfl (by kernel_rfl) (by kernel_rfl) (by kernel_rfl) (fun _ _ _ h => h) (Or.inl ⟨by rfl, ?_⟩) h11 ?_
                rotate_left
                · intro w hSw; obtain ⟨hSw, hSp⟩ := hSw; obtain ⟨⟨g0, g1, g2⟩, _⟩ := hSp.of3; go_simp; with_reducible rfl
                try simp only [Act.put, List.getElem_toArray, List.getElem_cons_succ, List.getElem_cons_zero, List.setIfInBounds_toArray, List.set_cons_zero, List.set_cons_succ]
                refine wpAnyH_take (i := 8) (v := ?_) rfl (by kernel_rfl) (by kernel_rfl) (by kernel_rfl) (fun _ _ _ h => h) (Or.inl ⟨by rfl, ?_⟩) h11 ?_
                rotate_left
                · intro w hSw; obtain ⟨hSw, hSp⟩ := hSw; obtain ⟨⟨g0, g1, g2⟩, _⟩ := hSp.of3; go_simp; with_reducible rfl
                try simp only [Act.put, List.getElem_toArray, List.getElem_cons_succ, List.getElem_cons_zero, List.setIfInBounds_toArray, List.set_cons_zero, List.set_cons_succ]
                refine wpAnyH_ready (rs := [10]) (by kernel_rfl) (by simp) ?_
                refine AllReadyH.cons rfl (fun K hK => ?_) AllReadyH.nil
                obtain ⟨d0, d1, d2, d3, d4⟩ := HPB.out.of2
                go_simp
                refine hK.out _ _ ⟨On.set (On.set h11.1 (by have := HPL.out; have := HVB.out; omega) _) (by have := HPL.out; have := HVB.out; omega) _, (h11.2.set_other (m := BBb) (by have := HPL.out; omega) 0 _).set_other (m := BBb) (by have := HPL.out; omega) 1 _⟩ (fun h12 => ?_)
                clear hK K d0 d1 d2 d3 d4
                try simp only [Act.put, List.getElem_toArray, List.getElem_cons_succ, List.getElem_cons_zero, List.setIfInBounds_toArray, List.set_cons_zero, List.set_cons_succ]
                have HPB := Lib.hid (show Box ((w11.setCell ⟨BBb, 0, none⟩ (.int .i64 (y + x + high))).setCell ⟨BBb, 1, none⟩ (.int .i64 0)) BBb [.int .i64 (y + x + high), .int .i64 0] from (HPB.out.set 0 (.int .i64 (y + x + high)) (by simp)).set 1 (.int .i64 0) (by simp))
                have HI5 := Lib.hid (ints_set (ints_set HI5.out HNI.out 0 (.int .i64 (y + x + high))) HNI.out 1 (.int .i64 0))
                have HE3 := Lib.hid ((HE3.out.set_other (m := BBb) HBB.out.symm 0 (.int .i64 (y + x + high))).set_other (m := BBb) HBB.out.symm 1 (.int .i64 0))
                have HI3 := Lib.hid (ints_set (ints_set HI3.out HN3.out 0 (.int .i64 (y + x + high))) HN3.out 1 (.int .i64 0))
                generalize (w11.setCell ⟨BBb, 0, none⟩ (.int .i64 (y + x + high))).setCell ⟨BBb, 1, none⟩ (.int .i64 0) = w12 at h12 HE3 HI3 HPB HI5 ⊢
                refine wpAnyH_take (i := 11) (v := ?_) rfl (by kernel_rfl) (by kernel_rfl) (by kernel_rfl) (fun _ _ _ h => h) (Or.inl ⟨by rfl, ?_⟩) h12 ?_
                rotate_left
                · intro w hSw; obtain ⟨hSw, hSp⟩ := hSw; obtain ⟨⟨g0, g1, g2⟩, _⟩ := hSp.of3; go_simp; with_reducible rfl
                try simp only [Act.put, List.getElem_toArray, List.getElem_cons_succ, List.getElem_cons_zero, List.setIfInBounds_toArray, List.set_cons_zero, List.set_cons_succ]
                refine wpAnyH_done (by kernel_rfl) ?_ _
                have C1 := Lib.hid (show ∀ p' : OnW w12, Calls Try.prog 10 #[.slice A6a 1 c6a, .slice A6b 1 c6b] p'.w fun e w' => e = .returned (.bool true) ∧ Below p'.w.heap.size p'.w w' from fun p' => rnumbers_to (v := true) (by simp) (ints_on HI3.out p'.h) (ints_on HI5.out p'.h))
                have C2 := Lib.hid (show ∀ p' : OnW w12, Calls Try.prog 19 #[.int .i64 (y + x + high), .int .i64 0] p'.w fun e w' => e = .returned (.agg #[.int .i64 (y + x + high), .int .i64 0]) ∧ Below p'.w.heap.size p'.w w' from fun p' => pen_to _ _ _)
                have C3 := Lib.hid (show ∀ p' : OnW w12, Calls Try.prog 7 #[] p'.w fun e w' => e = .returned (.bool true) ∧ Below p'.w.heap.size p'.w w' from fun p' => mawake_any HH.out _)
                have HX9 := Lib.hid (HX.out.below h12.1)
                have HB := Lib.hid (below_then HB.out h12.1)
                obtain ⟨k0, k1⟩ := OnW.of2 HX9.out
                obtain ⟨j2, j3⟩ := OnW.of2 HE3.out
                obtain ⟨d0, d1⟩ := OnW.of2 HPB.out
                obtain ⟨b9, o9, z9, e9, hz9, hc9⟩ := ints_get HI3.out (show 0 < 1 by decide)
                subst e9
                obtain rfl : y + x = z9 := by injection hz9
                rw [Nat.add_zero] at hc9
                have d9 := OnW.cell hc9
                have he := pn_same
                clear hc9 hz9
                go_wp2_with fail
                refine wp_region_on (by kernel_rfl) (by kernel_rfl) ?_
                repeat (go_big_quiet_step ((first
                    | (go_at_call 10; with_reducible exact Calls.on_of (C1.out _))
                    | (go_at_call 19; with_reducible exact Calls.on_of (C2.out _))
                    | (go_at_call 7; with_reducible exact Calls.on_of (C3.out _)))))
                refine wpQuiet_nil ?_
                intro w99 hw'
                obtain ⟨⟨w', hOn⟩, hw''⟩ := hw'
                obtain rfl : w99 = w' := hw''
                have HB9 := Lib.hid (below_then HB.out hOn)
                clear hOn k0 k1 j2 j3 d0 d1 d9
                go_wp2_with fail
                go_ret
                exact ⟨rfl, HB9.out⟩
            · go_simp
              refine hK.out _ _ ⟨On.alloc h7.1 _, h7.2.alloc _⟩ (fun h8 => ?_)
              clear hK K
              try simp only [Act.put, List.getElem_toArray, List.getElem_cons_succ, List.getElem_cons_zero, List.setIfInBounds_toArray, List.set_cons_zero, List.set_cons_succ]
              have hbz : Below w7.heap.size w7 (w7.alloc (.cells #[.int .i64 0, .int .i64 0] 23)) := (Below.refl _ _).alloc (Nat.le_refl _) _
              have HPB := Lib.hid (Box.new2 w7 (.int .i64 0) (.int .i64 0) 23)
              have HPL := Lib.hid (show BP < w7.heap.size from h7.2.lt)
              have HBB := Lib.hid (show BBa ≠ w7.heap.size from Nat.ne_of_lt HE3.out.lt)
              have HN3 := Lib.hid (show ∀ q, A6a = some q → q.block ≠ w7.heap.size from fun q e => Nat.ne_of_lt (ints_lt HI3.out (by decide) q e))
              have HOl := Lib.hid (owns_below HOl.out hbz)
              have HE3 := Lib.hid (HE3.out.below hbz)
              have HI3 := Lib.hid (ints_on HI3.out hbz)
              clear hbz
              generalize w7.heap.size = BBb at HPB HPL HN3 HBB ⊢
              generalize w7.alloc (.cells #[.int .i64 0, .int .i64 0] 23) = w8 at h8 HOl HE3 HI3 HPB ⊢
              refine wpAnyH_ready (rs := [3]) (by kernel_rfl) (by simp) ?_
              refine AllReadyH.cons rfl (fun K hK => ?_) AllReadyH.nil
              go_simp
              refine hK.out _ _ ⟨On.alloc h8.1 _, h8.2.alloc _⟩ (fun h9 => ?_)
              clear hK K
              try simp only [Act.put, List.getElem_toArray, List.getElem_cons_succ, List.getElem_cons_zero, List.setIfInBounds_toArray, List.set_cons_zero, List.set_cons_succ]
              have hbz : Below w8.heap.size w8 (w8.alloc (.cells #[.int .i64 4, .int .i64 high, .int .i64 0] 33)) := (Below.refl _ _).alloc (Nat.le_refl _) _
              have HCS := Lib.hid (cells_st w8 33 4 high 0)
              have HOl := Lib.hid (owns_below HOl.out hbz)
              have HE3 := Lib.hid (HE3.out.below hbz)
              have HI3 := Lib.hid (ints_on HI3.out hbz)
              have HPB := Lib.hid (HPB.out.below hbz)
              clear hbz
              generalize w8.heap.size = BS at HCS ⊢
              generalize w8.alloc (.cells #[.int .i64 4, .int .i64 high, .int .i64 0] 33) = w9 at h9 HOl HE3 HI3 HPB HCS ⊢
              refine wpAnyH_ready (rs := [4]) (by kernel_rfl) (by simp) ?_
              refine AllReadyH.cons rfl (fun K hK => ?_) AllReadyH.nil
              refine step_append_cells _ rfl (.tmp 88) (.tmp 90) _ rfl V.heap.size 33 i0 (.agg #[.int .i64 0, .int .i64 0, .int .i64 0]) 3 24 Try.underlying24 hi0 hz0 hz1 hz2 rfl (by decide) (.slice A2 k c2) k _ rfl HOl.out _ 1 1 _ rfl HCS.out (encSt_one ⟨_, _, _⟩) (by unfold maxLen; omega) (by omega) (Below.size h9.1) ?_
              intro A5 c5 w10 hown5 hg5
              refine hK.out _ _ ⟨Below.grown h9.1 hg5 (Below.size h9.1) (fun r e => owns_block HOl.out r e), h9.2.grown hg5 (fun r e => Nat.ne_of_lt (HLT2.out r e))⟩ (fun h10 => ?_)
              clear hK K
              try simp only [Act.put, List.getElem_toArray, List.getElem_cons_succ, List.getElem_cons_zero, List.setIfInBounds_toArray, List.set_cons_zero, List.set_cons_succ]
              have HR5 := Lib.hid (ownsRow_rows (enc := encSt) (zs := p2 ++ [⟨4, high, 0⟩]) encSt_len (by decide) (by rw [List.flatMap_append]; exact hown5))
              have HPB := Lib.hid (HPB.out.grown hg5 (fun r e => by have := HLT2.out r e; have := HPL.out; omega))
              have HE3 := Lib.hid (HE3.out.grown hg5 (fun r e => by have := HLT2.out r e; have := HPLa.out; omega))
              have HI3 := Lib.hid (ints_grown HI3.out hg5 (fun q e r e2 => by have := HLT2.out r e2; have := HF3.out q e; omega))
              clear hown5 hg5
              refine wpAnyH_ready (rs := [5]) (by kernel_rfl) (by simp) ?_
              refine AllReadyH.cons rfl (fun K hK => ?_) AllReadyH.nil
              go_simp
              refine (HH.out.run E3.out E4.out HY.out HM.out N2.out (by omega) HR5.out).mono ?_
              rintro e w11 ⟨A6b, n6, c6b, rfl, hn6, hI6, hb6, hf6⟩
              obtain rfl : n6 = 1 := hn6
              refine hK.out _ _ ⟨On.step h10.1 hb6, h10.2.below hb6⟩ (fun h11 => ?_)
              clear hK K
              try simp only [Act.put, List.getElem_toArray, List.getElem_cons_succ, List.getElem_cons_zero, List.setIfInBounds_toArray, List.set_cons_zero, List.set_cons_succ]
              have HF4 := Lib.hid (show ∀ q, A6b = some q → BP < q.block from fun q e => Nat.lt_of_lt_of_le h10.2.lt (hf6 q e))
              have HNI := Lib.hid (show ∀ q, A6b = some q → q.block ≠ BBb from fun q e => Nat.ne_of_gt (Nat.lt_of_lt_of_le HPB.out.lt (hf6 q e)))
              have HE3 := Lib.hid (HE3.out.below hb6)
              have HI3 := Lib.hid (ints_on HI3.out hb6)
              have HPB := Lib.hid (HPB.out.below hb6)
              have HI5 := Lib.hid hI6
              clear hI6 hb6 hf6
              refine wpAnyH_take (i := 6) (v := ?_) rfl (by kernel_rfl) (by kernel_rfl) (by kernel_rfl) (fun _ _ _ h => h) (Or.inl ⟨by rfl, ?_⟩) h11 ?_
              rotate_left
              · intro w hSw; obtain ⟨hSw, hSp⟩ := hSw; obtain ⟨⟨g0, g1, g2⟩, _⟩ := hSp.of3; go_simp; with_reducible rfl
              try simp only [Act.put, List.getElem_toArray, List.getElem_cons_succ, List.getElem_cons_zero, List.setIfInBounds_toArray, List.set_cons_zero, List.set_cons_succ]
              refine wpAnyH_take (i := 7) (v := ?_) rfl (by kernel_rfl) (by kernel_rfl) (by kernel_rfl) (fun _ _ _ h => h) (Or.inl ⟨by rfl, ?_⟩) h11 ?_
              rotate_left
              · intro w hSw; obtain ⟨hSw, hSp⟩ := hSw; obtain ⟨⟨g0, g1, g2⟩, _⟩ := hSp.of3; go_simp; with_reducible rfl
              try simp only [Act.put, List.getElem_toArray, List.getElem_cons_succ, List.getElem_cons_zero, List.setIfInBounds_toArray, List.set_cons_zero, List.set_cons_succ]
              refine wpAnyH_take (i := 8) (v := ?_) rfl (by kernel_rfl) (by kernel_rfl) (by kernel_rfl) (fun _ _ _ h => h) (Or.inl ⟨by rfl, ?_⟩) h11 ?_
              rotate_left
              · intro w hSw; obtain ⟨hSw, hSp⟩ := hSw; obtain ⟨⟨g0, g1, g2⟩, _⟩ := hSp.of3; go_simp; with_reducible rfl
              try simp only [Act.put, List.getElem_toArray, List.getElem_cons_succ, List.getElem_cons_zero, List.setIfInBounds_toArray, List.set_cons_zero, List.set_cons_succ]
              refine wpAnyH_ready (rs := [10]) (by kernel_rfl) (by simp) ?_
              refine AllReadyH.cons rfl (fun K hK => ?_) AllReadyH.nil
              obtain ⟨d0, d1, d2, d3, d4⟩ := HPB.out.of2
              go_simp
              refine hK.out _ _ ⟨On.set (On.set h11.1 (by have := HPL.out; have := HVB.out; omega) _) (by have := HPL.out; have := HVB.out; omega) _, (h11.2.set_other (m := BBb) (by have := HPL.out; omega) 0 _).set_other (m := BBb) (by have := HPL.out; omega) 1 _⟩ (fun h12 => ?_)
              clear hK K d0 d1 d2 d3 d4
              try simp only [Act.put, List.getElem_toArray, List.getElem_cons_succ, List.getElem_cons_zero, List.setIfInBounds_toArray, List.set_cons_zero, List.set_cons_succ]
              have HPB := Lib.hid (show Box ((w11.setCell ⟨BBb, 0, none⟩ (.int .i64 (y + x + high))).setCell ⟨BBb, 1, none⟩ (.int .i64 0)) BBb [.int .i64 (y + x + high), .int .i64 0] from (HPB.out.set 0 (.int .i64 (y + x + high)) (by simp)).set 1 (.int .i64 0) (by simp))
              have HI5 := Lib.hid (ints_set (ints_set HI5.out HNI.out 0 (.int .i64 (y + x + high))) HNI.out 1 (.int .i64 0))
              have HE3 := Lib.hid ((HE3.out.set_other (m := BBb) HBB.out.symm 0 (.int .i64 (y + x + high))).set_other (m := BBb) HBB.out.symm 1 (.int .i64 0))
              have HI3 := Lib.hid (ints_set (ints_set HI3.out HN3.out 0 (.int .i64 (y + x + high))) HN3.out 1 (.int .i64 0))
              generalize (w11.setCell ⟨BBb, 0, none⟩ (.int .i64 (y + x + high))).setCell ⟨BBb, 1, none⟩ (.int .i64 0) = w12 at h12 HE3 HI3 HPB HI5 ⊢
              refine wpAnyH_take (i := 11) (v := ?_) rfl (by kernel_rfl) (by kernel_rfl) (by kernel_rfl) (fun _ _ _ h => h) (Or.inl ⟨by rfl, ?_⟩) h12 ?_
              rotate_left
              · intro w hSw; obtain ⟨hSw, hSp⟩ := hSw; obtain ⟨⟨g0, g1, g2⟩, _⟩ := hSp.of3; go_simp; with_reducible rfl
              try simp only [Act.put, List.getElem_toArray, List.getElem_cons_succ, List.getElem_cons_zero, List.setIfInBounds_toArray, List.set_cons_zero, List.set_cons_succ]
              refine wpAnyH_done (by kernel_rfl) ?_ _
              have C1 := Lib.hid (show ∀ p' : OnW w12, Calls Try.prog 10 #[.slice A6a 1 c6a, .slice A6b 1 c6b] p'.w fun e w' => e = .returned (.bool true) ∧ Below p'.w.heap.size p'.w w' from fun p' => rnumbers_to (v := true) (by simp) (ints_on HI3.out p'.h) (ints_on HI5.out p'.h))
              have C2 := Lib.hid (show ∀ p' : OnW w12, Calls Try.prog 19 #[.int .i64 (y + x + high), .int .i64 0] p'.w fun e w' => e = .returned (.agg #[.int .i64 (y + x + high), .int .i64 0]) ∧ Below p'.w.heap.size p'.w w' from fun p' => pen_to _ _ _)
              have C3 := Lib.hid (show ∀ p' : OnW w12, Calls Try.prog 7 #[] p'.w fun e w' => e = .returned (.bool true) ∧ Below p'.w.heap.size p'.w w' from fun p' => mawake_any HH.out _)
              have HX9 := Lib.hid (HX.out.below h12.1)
              have HB := Lib.hid (below_then HB.out h12.1)
              obtain ⟨k0, k1⟩ := OnW.of2 HX9.out
              obtain ⟨j2, j3⟩ := OnW.of2 HE3.out
              obtain ⟨d0, d1⟩ := OnW.of2 HPB.out
              obtain ⟨b9, o9, z9, e9, hz9, hc9⟩ := ints_get HI3.out (show 0 < 1 by decide)
              subst e9
              obtain rfl : y + x = z9 := by injection hz9
              rw [Nat.add_zero] at hc9
              have d9 := OnW.cell hc9
              have he := pn_same
              clear hc9 hz9
              go_wp2_with fail
              refine wp_region_on (by kernel_rfl) (by kernel_rfl) ?_
              repeat (go_big_quiet_step ((first
                  | (go_at_call 10; with_reducible exact Calls.on_of (C1.out _))
                  | (go_at_call 19; with_reducible exact Calls.on_of (C2.out _))
                  | (go_at_call 7; with_reducible exact Calls.on_of (C3.out _)))))
              refine wpQuiet_nil ?_
              intro w99 hw'
              obtain ⟨⟨w', hOn⟩, hw''⟩ := hw'
              obtain rfl : w99 = w' := hw''
              have HB9 := Lib.hid (below_then HB.out hOn)
              clear hOn k0 k1 j2 j3 d0 d1 d9
              go_wp2_with fail
              go_ret
              exact ⟨rfl, HB9.out⟩
end Go.Proofs.Ytikpbgkjghcidaa
