import Derived.Test.YtdjnaejblgheoaaGreatJS03
import Derived.BigRegion
/- The program's function of package margin that runs steps. -/
namespace Go.Proofs.YtdjnaejblgheoaaGreat
open Go.RowKit
set_option linter.unusedVariables false
set_option linter.unusedSimpArgs false
theorem zero_clo (w : World) : (zeroValue 103).run Tryz.prog w = .ok .nilFunc w := by kernel_rfl
theorem stp_split {P : Prop} (u : Int) (h1 : u = 1 → P) (h2 : u = 2 → P) (h3 : u = 3 → P) (h4 : u = 4 → P) (h5 : u ≠ 1 → u ≠ 2 → u ≠ 3 → u ≠ 4 → P) : P := by
  by_cases c1 : u = 1
  · exact h1 c1
  by_cases c2 : u = 2
  · exact h2 c2
  by_cases c3 : u = 3
  · exact h3 c3
  by_cases c4 : u = 4
  · exact h4 c4
  exact h5 c1 c2 c3 c4
theorem stepsL_in1 (c : Nat) : (stepsL c)[0]? = some (1, .func (.func 73) #[] #[.pointer (some ⟨c, 0, none⟩)]) := rfl
theorem stepsL_in2 (c : Nat) : (stepsL c)[1]? = some (2, .func (.func 75) #[] #[.pointer (some ⟨c, 0, none⟩)]) := rfl
theorem stepsL_in3 (c : Nat) : (stepsL c)[2]? = some (3, .func (.func 77) #[] #[.pointer (some ⟨c, 0, none⟩)]) := rfl
theorem stepsL_in4 (c : Nat) : (stepsL c)[3]? = some (4, .func (.func 79) #[] #[.pointer (some ⟨c, 0, none⟩)]) := rfl
theorem stepsL_ne {c k : Nat} {z : Int} (hk : (k : Int) < z) : ∀ q x u, q < k → (stepsL c)[q]? = some (x, u) → x ≠ z := by
  intro q x u hq h
  match q, h with
  | 0, h => simp [stepsL] at h; omega
  | 1, h => simp [stepsL] at h; omega
  | 2, h => simp [stepsL] at h; omega
  | 3, h => simp [stepsL] at h; omega
  | q + 4, h => simp [stepsL] at h
theorem stepsL_out {c : Nat} {z : Int} (h1 : z ≠ 1) (h2 : z ≠ 2) (h3 : z ≠ 3) (h4 : z ≠ 4) : ∀ p ∈ stepsL c, p.1 ≠ z := by
  intro p hp
  simp [stepsL] at hp
  rcases hp with rfl | rfl | rfl | rfl <;> simp <;> omega
theorem pen_new {w w' : World} {y m : Int} {zs : List Int} {A : Option Addr} {c B : Nat} (ho : w'.ownsRow B 3 1 (.slice A zs.length c) zs.length (zs.map (Value.int .i64))) (hB : w.heap.size ≤ B) (hb : Below w.heap.size w w') :
    PenNew w y m zs (.returned (.tuple #[.agg #[.int .i64 y, .int .i64 m], .slice A zs.length c])) w' := by
  refine ⟨A, zs.length, c, rfl, rfl, (ownsRow_cells ho).ints, hb, fun q hq => ?_⟩
  subst hq
  have := owns_block ho q.block
  rcases ho.2 with ⟨h1, _⟩ | ⟨g, cap, cur, h1, h2, _⟩
  · cases h1
  · injection h1 with h1
    injection h1 with h1
    rw [h1]
    exact Nat.le_trans hB h2
set_option maxHeartbeats 8000000 in
set_option maxRecDepth 100000 in
theorem run13_near {l : List Stp} {y m y' m' : Int} {zs : List Int} {A : Option Addr} {n c : Nat} {w : World} (hv : penL (y, m) l = (y', m')) (hz : placesL (y, m) l = zs) (hp : ∀ k, k ≤ n → ∃ j, j ≤ 1000 ∧ PenB j (penL (y, m) (l.take k))) (hn : ∀ s ∈ l, s.near) (hn2 : n ≤ 100000) (h : Rows 3 encSt w A n l) :
    Calls Tryz.prog 17 #[.agg #[.int .i64 y, .int .i64 m], .slice A n c] w (PenNew w y' m' zs) := by
  have HA := Lib.hid h
  have HL := Lib.hid h.1
  have HN := Lib.hid hn
  have HV := Lib.hid hv
  have HZ := Lib.hid hz
  have HPS := Lib.hid hp
  clear h hn hp hv hz
  go_enter Tryz.func17, Tryz.ntmps17
  go_wp2_with fail
  generalize hW : World.alloc (World.alloc (World.alloc w _) _) _ = W
  have HX0 := Lib.hid (show Box W (w.heap.size + 1 + 1) (mvd y m none 0 0) by rw [← hW]; exact box_newN _ (mvd y m none 0 0) _ _ (by simp))
  have HR0 := Lib.hid (show Box W (w.heap.size + 1) [.int .i64 0, .int .i64 0] by rw [← hW]; exact (Box.new2' _ _ _ _ _ (by simp)).alloc _)
  have HB0 := Lib.hid (show Below w.heap.size w W by rw [← hW]; go_grown)
  clear hW
  refine steps13_to.mono ?_
  rintro e V ⟨bb, cb, rfl, hM, hC, hne, hb1, hc1, hb⟩
  have HM1 := Lib.hid hM
  have HC1 := Lib.hid hC
  have HX1 := Lib.hid (HX0.out.below hb)
  have HR1 := Lib.hid (HR0.out.below hb)
  have HB1 := Lib.hid (below_then HB0.out hb)
  have hcB := hC.1
  have hbB := hM.lt
  have hxW := HX0.out.1
  have HO1 := Lib.hid (owns_nil V V.heap.size 3 1)
  have HM0 := Lib.hid (show Mv V.heap.size (w.heap.size + 1 + 1) V y m [] from ⟨none, 0, HX1.out, HO1.out, HX1.out.1, Nat.le_refl _⟩)
  clear hM hC hb HX0 HR0 HB0 HX1 HO1
  generalize hBB : V.heap.size = B at hcB hbB HM0
  have HBB := Lib.hid hBB
  clear hBB
  have hcx : cb ≠ w.heap.size + 1 + 1 := by omega
  have hbx : bb ≠ w.heap.size + 1 + 1 := by omega
  have hrB : w.heap.size + 1 < B := by omega
  clear hne
  go_wp2_with fail
  go_loopw [9, 10, 11, 17] (fun s9 s10 s11 i wr => ∃ (k : Nat) (ps : List Int) (y1 m1 : Int), i = .int .i64 (k : Int) ∧ k ≤ n ∧ Hid (placesL (y, m) (l.take k) = ps) ∧ Hid (penL (y, m) (l.take k) = (y1, m1)) ∧ Hid (Mv B (w.heap.size + 1 + 1) wr y1 m1 ps) ∧ Hid (Box wr cb [.pointer (some ⟨w.heap.size + 1 + 1, 0, none⟩)]) ∧ Hid (MapAt wr bb (stepsL cb)) ∧ Hid (Box wr (w.heap.size + 1) [.int .i64 0, .int .i64 0]) ∧ Hid (Below w.heap.size w wr)) (fun _ _ _ i _ => n - (intOf i).toNat)
  case atStart => exact ⟨0, [], y, m, rfl, Nat.zero_le _, Lib.hid rfl, Lib.hid rfl, HM0, HC1, HM1, HR1, HB1⟩
  case round =>
    obtain ⟨k, ps, y1, m1, rfl, hkn, HPL, HPE, HM, HC, HT, HR, HB⟩ := hrel
    by_cases hlt : k < n
    · have hlt2 : (k : Int) < (n : Int) := by omega
      obtain ⟨b1, o1, s, rfl, hb1', hs, q0, q1, q2⟩ := st_at (HA.out.below HB.out) hlt
      have HPT := Lib.hid (placesL_take (y, m) hs)
      have HET := Lib.hid (penL_take (y, m) hs)
      have HNS := Lib.hid (HN.out s (List.mem_of_getElem? hs))
      obtain ⟨jb, hjb, hpb⟩ := HPS.out k hkn
      rw [HPE.out] at hpb
      have HPB := Lib.hid hpb
      clear hpb
      have HPN := Lib.hid (show ps.length ≤ 100000 by rw [← HPL.out]; have h3 := placesL_len (l.take k) (y, m); rw [List.length_take] at h3; have := HL.out; omega)
      obtain ⟨s0, a, b⟩ := s
      simp only at q0 q1 q2
      clear hs
      go_wp2_with ((with_reducible refine stop_dst 25 ?_ ?_); exact rfl)
      refine Stop.intro ?_
      obtain ⟨VS, hVS⟩ : ∃ VS, wr.alloc (.cells #[.int .i64 s0, .int .i64 a, .int .i64 b] 102) = VS := ⟨_, rfl⟩
      have hal : Below wr.heap.size wr VS := by rw [← hVS]; exact (Below.refl _ _).alloc (Nat.le_refl _) _
      have HS := Lib.hid (show Box VS wr.heap.size [.int .i64 s0, .int .i64 a, .int .i64 b] by rw [← hVS]; exact box_new3 wr _ _ _ _)
      have HMG := Lib.hid (show Mv B (w.heap.size + 1 + 1) VS y1 m1 ps by (obtain ⟨A4, c4, h1, h2, h3, h4⟩ := HM.out; exact ⟨A4, c4, h1.below hal, owns_below h2 hal, h3, Nat.le_trans h4 hal.size⟩))
      have HCG := Lib.hid (HC.out.below hal)
      have HTG := Lib.hid (HT.out.below hal)
      have HRG := Lib.hid (HR.out.below hal)
      have HBG := Lib.hid (below_then HB.out hal)
      rw [hVS]
      clear hVS q0 q1 q2 hal HM HC HT HR HB
      obtain ⟨⟨k0, k1, k2⟩, _⟩ := HS.out.of3
      refine stp_split s0 (fun u => ?_) (fun u => ?_) (fun u => ?_) (fun u => ?_) (fun u1 u2 u3 u4 => ?_)
      · subst u
        obtain ⟨⟨y2, m2⟩, hq⟩ : ∃ q, enterP (y1, m1) a b = q := ⟨_, rfl⟩
        have HQ := Lib.hid hq
        have HP2 := Lib.hid (show placesL (y, m) (l.take (k + 1)) = ps by rw [HPT.out, HPL.out]; exact List.append_nil _)
        have HE2 := Lib.hid (show penL (y, m) (l.take (k + 1)) = (y2, m2) by rw [HET.out, HPE.out]; exact hq)
        clear hq
        refine wpList_lookup_at (by rfl) _ _ _ (by rfl) bb 1 (.tuple #[.func (.func 73) #[] #[.pointer (some ⟨cb, 0, none⟩)], .bool true]) (by rfl) (by rfl) (run_lookup_in Tryz.underlying99 Tryz.underlying3 HTG.out (stepsL_in1 cb) (stepsL_ne (by decide))) ?_
        go_wp2_with fail
        refine (clo1_to HQ.out HPB.out (by omega) HNS.out.1 HNS.out.2 HMG.out HCG.out).mono ?_
        rintro e w5 ⟨rfl, hM5, hF5⟩
        have HM5 := Lib.hid hM5
        have HC5 := Lib.hid (hF5.box HCG.out hcB hcx)
        have HT5 := Lib.hid (hF5.map HTG.out hbB hbx)
        have HR5 := Lib.hid (hF5.box HRG.out hrB (by omega))
        have HB5 := Lib.hid (hF5.low HBG.out (by omega) (by omega))
        clear hM5 hF5 k0 k1 k2 HMG HCG HTG HRG HBG HS
        go_wp2_with fail
        go_roundw
        case rel => exact ⟨k + 1, ps, y2, m2, by go_num, by omega, HP2, HE2, HM5, HC5, HT5, HR5, HB5⟩
        case measure => simp [intOf] <;> omega
      · subst u
        obtain ⟨⟨y2, m2⟩, hq⟩ : ∃ q, leaveP (y1, m1) a b = q := ⟨_, rfl⟩
        have HQ := Lib.hid hq
        have HP2 := Lib.hid (show placesL (y, m) (l.take (k + 1)) = ps by rw [HPT.out, HPL.out]; exact List.append_nil _)
        have HE2 := Lib.hid (show penL (y, m) (l.take (k + 1)) = (y2, m2) by rw [HET.out, HPE.out]; exact hq)
        clear hq
        refine wpList_lookup_at (by rfl) _ _ _ (by rfl) bb 2 (.tuple #[.func (.func 75) #[] #[.pointer (some ⟨cb, 0, none⟩)], .bool true]) (by rfl) (by rfl) (run_lookup_in Tryz.underlying99 Tryz.underlying3 HTG.out (stepsL_in2 cb) (stepsL_ne (by decide))) ?_
        go_wp2_with fail
        refine (clo2_to HQ.out HPB.out (by omega) HNS.out.1 HNS.out.2 HMG.out HCG.out).mono ?_
        rintro e w5 ⟨rfl, hM5, hF5⟩
        have HM5 := Lib.hid hM5
        have HC5 := Lib.hid (hF5.box HCG.out hcB hcx)
        have HT5 := Lib.hid (hF5.map HTG.out hbB hbx)
        have HR5 := Lib.hid (hF5.box HRG.out hrB (by omega))
        have HB5 := Lib.hid (hF5.low HBG.out (by omega) (by omega))
        clear hM5 hF5 k0 k1 k2 HMG HCG HTG HRG HBG HS
        go_wp2_with fail
        go_roundw
        case rel => exact ⟨k + 1, ps, y2, m2, by go_num, by omega, HP2, HE2, HM5, HC5, HT5, HR5, HB5⟩
        case measure => simp [intOf] <;> omega
      · subst u
        obtain ⟨⟨y2, m2⟩, hq⟩ : ∃ q, clearP (y1, m1) a = q := ⟨_, rfl⟩
        have HQ := Lib.hid hq
        have HP2 := Lib.hid (show placesL (y, m) (l.take (k + 1)) = ps by rw [HPT.out, HPL.out]; exact List.append_nil _)
        have HE2 := Lib.hid (show penL (y, m) (l.take (k + 1)) = (y2, m2) by rw [HET.out, HPE.out]; exact hq)
        clear hq
        refine wpList_lookup_at (by rfl) _ _ _ (by rfl) bb 3 (.tuple #[.func (.func 77) #[] #[.pointer (some ⟨cb, 0, none⟩)], .bool true]) (by rfl) (by rfl) (run_lookup_in Tryz.underlying99 Tryz.underlying3 HTG.out (stepsL_in3 cb) (stepsL_ne (by decide))) ?_
        go_wp2_with fail
        refine (clo3_to HQ.out HPB.out (by omega) HNS.out.1 HNS.out.2 HMG.out HCG.out).mono ?_
        rintro e w5 ⟨rfl, hM5, hF5⟩
        have HM5 := Lib.hid hM5
        have HC5 := Lib.hid (hF5.box HCG.out hcB hcx)
        have HT5 := Lib.hid (hF5.map HTG.out hbB hbx)
        have HR5 := Lib.hid (hF5.box HRG.out hrB (by omega))
        have HB5 := Lib.hid (hF5.low HBG.out (by omega) (by omega))
        clear hM5 hF5 k0 k1 k2 HMG HCG HTG HRG HBG HS
        go_wp2_with fail
        go_roundw
        case rel => exact ⟨k + 1, ps, y2, m2, by go_num, by omega, HP2, HE2, HM5, HC5, HT5, HR5, HB5⟩
        case measure => simp [intOf] <;> omega
      · subst u
        have HP2 := Lib.hid (show placesL (y, m) (l.take (k + 1)) = ps ++ [y1 + m1] by rw [HPT.out, HPL.out, HPE.out]; rfl)
        have HE2 := Lib.hid (show penL (y, m) (l.take (k + 1)) = (y1 + m1 + a, 0) by rw [HET.out, HPE.out]; rfl)
        refine wpList_lookup_at (by rfl) _ _ _ (by rfl) bb 4 (.tuple #[.func (.func 79) #[] #[.pointer (some ⟨cb, 0, none⟩)], .bool true]) (by rfl) (by rfl) (run_lookup_in Tryz.underlying99 Tryz.underlying3 HTG.out (stepsL_in4 cb) (stepsL_ne (by decide))) ?_
        go_wp2_with fail
        refine (clo4_to HPB.out (by omega) HNS.out.1 HMG.out HCG.out hcB hcx HPN.out).mono ?_
        rintro e w5 ⟨rfl, hM5, hF5⟩
        have HM5 := Lib.hid hM5
        have HC5 := Lib.hid (hF5.box HCG.out hcB hcx)
        have HT5 := Lib.hid (hF5.map HTG.out hbB hbx)
        have HR5 := Lib.hid (hF5.box HRG.out hrB (by omega))
        have HB5 := Lib.hid (hF5.low HBG.out (by omega) (by omega))
        clear hM5 hF5 k0 k1 k2 HMG HCG HTG HRG HBG HS
        go_wp2_with fail
        go_roundw
        case rel => exact ⟨k + 1, (ps ++ [y1 + m1]), (y1 + m1 + a), 0, by go_num, by omega, HP2, HE2, HM5, HC5, HT5, HR5, HB5⟩
        case measure => simp [intOf] <;> omega
      · have HP2 := Lib.hid (show placesL (y, m) (l.take (k + 1)) = ps by rw [HPT.out, HPL.out]; unfold placeP; rw [if_neg u4]; exact List.append_nil _)
        have HE2 := Lib.hid (show penL (y, m) (l.take (k + 1)) = (y1, m1) by rw [HET.out, HPE.out]; unfold stepP; rw [if_neg u1, if_neg u2, if_neg u3, if_neg u4])
        refine wpList_lookup_at (by rfl) _ _ _ (by rfl) bb s0 (.tuple #[.nilFunc, .bool false]) (by rfl) (by rfl) (run_lookup_out Tryz.underlying99 Tryz.underlying3 (zero_clo _) HTG.out (stepsL_out u1 u2 u3 u4)) ?_
        clear u1 u2 u3 u4
        go_wp2_with fail
        go_roundw
        case rel => exact ⟨k + 1, ps, y1, m1, by go_num, by omega, HP2, HE2, HMG, HCG, HTG, HRG, HBG⟩
        case measure => simp [intOf] <;> omega
    · have hge : (n : Int) ≤ (k : Int) := by omega
      have hkn2 : k = n := by omega
      have HE := Lib.hid (show (y1, m1) = (y', m') by rw [← HV.out, ← HPE.out, List.take_of_length_le (by have := HL.out; omega)])
      have HEP := Lib.hid (show ps = zs by rw [← HZ.out, ← HPL.out, List.take_of_length_le (by have := HL.out; omega)])
      clear hkn2
      obtain ⟨A4, c4, hX4, hO4, _, _⟩ := HM.out
      have HX4 := Lib.hid hX4
      have HO4 := Lib.hid hO4
      clear hX4 hO4
      obtain ⟨⟨d0, d1, d2⟩, _, _⟩ := mvd_of HX4.out
      obtain ⟨r0, r1, r2, r3, r4⟩ := HR.out.of2
      go_wp2_with fail
      go_region
      go_wp2_with fail
      have hY := ((HR.out.set 0 (.int .i64 y1) (by simp)).set 1 (.int .i64 m1) (by simp)).drew
      have s0 := hY.2.2 0 _ rfl
      have s1 := hY.2.2 1 _ rfl
      have he := HE.out
      injection he with e1 e2
      have hp : PenNew w y1 m1 ps (.returned (.tuple #[.agg #[.int .i64 y1, .int .i64 m1], .slice A4 ps.length c4])) ((wr.setCell ⟨w.heap.size + 1, 0, none⟩ (.int .i64 y1)).setCell ⟨w.heap.size + 1, 1, none⟩ (.int .i64 m1)).drew :=
        pen_new (owns_below (owns_set13 (owns_set13 HO4.out (m := w.heap.size + 1) (by omega) 0 (.int .i64 y1)) (m := w.heap.size + 1) (by omega) 1 (.int .i64 m1)) (Below.refl _ _).drew) (by omega) ((HB.out.setCell (by simp) _).setCell (by simp) _).drew
      rw [e1, e2, HEP.out] at hp
      refine bodyPost_ret (v := .tuple #[.agg #[.int .i64 y1, .int .i64 m1], .slice A4 ps.length c4]) (by simp [results, Tryz.results17, go_sem, s0, s1]) rfl ?_
      rw [e1, e2, HEP.out]
      exact hp
end Go.Proofs.YtdjnaejblgheoaaGreat
