import Derived.Test.YtamakeogaipdiaaJA03
import Derived.Test.YtamakeogaipdiaaJA18
import Derived.Test.YtamakeogaipdiaaJA02
/- The document's answers for package kin: whether a row of atoms' nodes may be. -/
namespace Go.Proofs.Ytamakeogaipdiaa
open Go.RowKit
set_option linter.unusedVariables false
set_option linter.unusedSimpArgs false
set_option maxHeartbeats 4000000 in
set_option maxRecDepth 100000 in
theorem vkchk_to {L : List Nd} {of : List Int} {v : Int} (hv : chkK L of = v) {A B : Option Addr} {n c m d : Nat} {w : World} (hS : Sees w A n L) (hI : Ints w B m of) (hn : n ≤ 100000) (hm : m ≤ 1000000) :
    Calls Try.prog 11 #[.slice A n c, .slice B m d] w fun e w' => e = .returned (.int .i64 v) ∧ Below w.heap.size w w' := by
  have HV := Lib.hid hv
  have HS := Lib.hid hS
  have HI := Lib.hid hI
  have HLO := Lib.hid hI.1
  have HLN := Lib.hid hS.len
  clear hv hS hI
  rcases hd : docB L with _ | _
  · have HD := Lib.hid hd
    clear hd
    go_enter Try.func11, Try.ntmps11
    go_wp2_with fail
    refine (vIs_to HD.out HS.out).mono ?_
    rintro e w1 ⟨rfl, hb⟩
    have HB := Lib.hid hb
    clear hb
    go_wp2_with fail
    go_ret
    exact ⟨ret_int (by rw [← HV.out, chk_doc HD.out]), HB.out⟩
  have HD := Lib.hid hd
  clear hd
  go_enter Try.func11, Try.ntmps11
  go_wp2_with fail
  refine (vIs_to HD.out HS.out).mono ?_
  rintro e w1 ⟨rfl, hb⟩
  have HB := Lib.hid (show On w w1 from hb)
  clear hb
  go_wp2_with fail
  go_loopw [5] (fun i wr => ∃ k : Nat, i = .int .i64 (k : Int) ∧ k ≤ m ∧ Hid (∀ j, j < k → atK L of j = true) ∧ Hid (On w wr)) (fun i _ => m - (intOf i).toNat)
  case atStart => exact ⟨0, rfl, Nat.zero_le _, Lib.hid (fun j hj => by omega), HB⟩
  case round =>
    obtain ⟨k, rfl, hkm, HA, HO⟩ := hrel
    by_cases hlt : k < m
    · have hlt2 : (k : Int) < (m : Int) := by omega
      have hk0 : (0 : Int) ≤ (k : Int) := by omega
      have ha : of[k]? = some (of[k]'(by have := HLO.out; omega)) := List.getElem?_eq_getElem _
      obtain ⟨a, haa⟩ : ∃ a, of[k]'(by have := HLO.out; omega) = a := ⟨_, rfl⟩
      rw [haa] at ha
      have c9 := (HI.out.below HO.out rfl).2.2 (by omega)
      obtain ⟨b1, o1, rfl, hb1, c9⟩ := c9
      have cp := c9 (k - 1)
      have c1 := c9 k hlt
      clear c9
      rw [ha, Option.getD_some] at c1
      have k1 := OnW.cell c1
      have HAA := Lib.hid ha
      have hwk : IntKind.i64.wrap ((k : Int) + 1) = (k : Int) + 1 := IntWalk.i64_in _ (by omega)
      clear haa ha
      by_cases a0 : a < 0
      · have HR := Lib.hid (show v = 4 by rw [← HV.out, chk_at (by have := HLO.out; omega) (atK_no HAA.out (leafK_neg a0))])
        clear cp
        go_wp2_with fail
        refine wp_region_on (by kernel_rfl) (by kernel_rfl) ?_
        repeat (go_big_quiet_step (fail))
        refine wpQuiet_nil ?_
        intro w5 hw'
        obtain ⟨⟨w6, hOn⟩, hw''⟩ := hw'
        obtain rfl : w5 = w6 := hw''
        go_wp2_with fail
        go_ret
        exact ⟨ret_int HR.out.symm, below_then HO.out hOn⟩
      by_cases a1 : (n : Int) ≤ a
      · have HR := Lib.hid (show v = 4 by rw [← HV.out, chk_at (by have := HLO.out; omega) (atK_no HAA.out (leafK_far (by have := HLN.out; omega)))])
        have a0' : 0 ≤ a := by omega
        have d0 : decide (a < 0) = false := decide_eq_false a0
        have d1 : decide ((n : Int) ≤ a) = true := decide_eq_true a1
        clear cp
        go_wp2_with fail
        refine wp_region_on (by kernel_rfl) (by kernel_rfl) ?_
        repeat (go_big_quiet_step (fail))
        refine wpQuiet_nil ?_
        intro w5 hw'
        obtain ⟨⟨w6, hOn⟩, hw''⟩ := hw'
        obtain rfl : w5 = w6 := hw''
        go_wp2_with fail
        go_ret
        exact ⟨ret_int HR.out.symm, below_then HO.out hOn⟩
      obtain ⟨j, rfl⟩ : ∃ j : Nat, a = (j : Int) := ⟨a.toNat, by omega⟩
      have hj : j < n := by omega
      have hj2 : (j : Int) < (n : Int) := by omega
      have hj0 : (0 : Int) ≤ (j : Int) := by omega
      have d0 : decide ((j : Int) < 0) = false := decide_eq_false a0
      have d1 : decide ((n : Int) ≤ (j : Int)) = false := decide_eq_false a1
      have d1' : decide (n ≤ j) = false := decide_eq_false (by omega)
      have d1'' : ¬ n ≤ j := by omega
      obtain ⟨b2, o2, m2, x2, rfl, hb2, e2, r2, s2⟩ := (HS.out.below HO.out).at_ hj
      have c0 : wr.cell? ⟨b2, o2 + j * 20, none⟩ = some (.int .i64 m2.kind) := r2 0 _ rfl
      have hk : x2.kind = m2.kind := s2.1.1
      obtain ⟨kd, hkd⟩ : ∃ kd, m2.kind = kd := ⟨_, rfl⟩
      rw [hkd] at c0 hk
      have k0 := OnW.cell c0
      have HLK := Lib.hid (leafK_get e2)
      rw [hk] at HLK
      clear r2 s2 e2 hk hkd a0 a1
      by_cases hkk : kd = 2 ∨ kd = 3
      · have HLT := Lib.hid (show leafK L (j : Int) = true by rw [HLK.out]; simpa using hkk)
        cases k with
        | zero =>
          have HN := Lib.hid (show ∀ i, i < 0 + 1 → atK L of i = true from fun i hi => by
            obtain rfl : i = 0 := by omega
            rw [atK_zero HAA.out]; exact HLT.out)
          have hz1 : ((0 : Nat) : Int) = 0 := rfl
          rw [hz1] at hlt2 hk0 hwk ⊢
          rw [Nat.add_zero] at c1
          have k1 := OnW.cell c1
          have hz2 : decide ((0 : Int) < 0) = false := rfl
          clear cp hz1
          rcases hkk with rfl | rfl
          all_goals
            go_wp2_with fail
            refine wp_region_on (by kernel_rfl) (by kernel_rfl) ?_
            repeat (go_big_quiet_step (fail))
            refine wpQuiet_nil ?_
            intro w5 hw'
            obtain ⟨⟨w6, hOn⟩, hw''⟩ := hw'
            obtain rfl : w5 = w6 := hw''
            go_wp2_with fail
            go_roundw
            case rel => exact ⟨0 + 1, by go_num, by omega, HN, Lib.hid (below_then HO.out hOn)⟩
            case measure => simp [intOf] <;> omega
        | succ k =>
          have hp : of[k]? = some (of[k]'(by have := HLO.out; omega)) := List.getElem?_eq_getElem _
          obtain ⟨p, hpp⟩ : ∃ p, of[k]'(by have := HLO.out; omega) = p := ⟨_, rfl⟩
          rw [hpp] at hp
          have HPP := Lib.hid hp
          have cp := cp (by omega)
          rw [Nat.add_sub_cancel, hp, Option.getD_some] at cp
          have kp := OnW.cell cp
          have hk1 : ((k + 1 : Nat) : Int) = (k : Int) + 1 := by omega
          rw [hk1] at hlt2 hk0 hwk ⊢
          have hkp : (0 : Int) < (k : Int) + 1 := by omega
          have hkd : decide ((0 : Int) < (k : Int) + 1) = true := decide_eq_true hkp
          have hks : IntKind.i64.wrap ((k : Int) + 1 - 1) = (k : Int) := by rw [Int.add_sub_cancel]; exact IntWalk.i64_in _ (by omega)
          have hkm2 : (k : Int) < (m : Int) := by omega
          have hkk0 : (0 : Int) ≤ (k : Int) := by omega
          clear hp hpp hk1
          by_cases hle : p ≤ (j : Int)
          · have HN := Lib.hid (show ∀ i, i < k + 1 + 1 → atK L of i = true from fun i hi => by
              rcases Nat.lt_or_ge i (k + 1) with h1 | h1
              · exact HA.out i h1
              · obtain rfl : i = k + 1 := by omega
                rw [atK_succ HAA.out HPP.out, HLT.out, decide_eq_true hle]; rfl)
            have d2 : decide ((j : Int) < p) = false := decide_eq_false (by omega)
            rcases hkk with rfl | rfl
            all_goals
              go_wp2_with fail
              refine wp_region_on (by kernel_rfl) (by kernel_rfl) ?_
              repeat (go_big_quiet_step (fail))
              refine wpQuiet_nil ?_
              intro w5 hw'
              obtain ⟨⟨w6, hOn⟩, hw''⟩ := hw'
              obtain rfl : w5 = w6 := hw''
              go_wp2_with fail
              go_roundw
              case rel => exact ⟨k + 1 + 1, by go_num, by omega, HN, Lib.hid (below_then HO.out hOn)⟩
              case measure => simp [intOf] <;> omega
          · have HR := Lib.hid (show v = 4 by rw [← HV.out, chk_at (k := k + 1) (by have := HLO.out; omega) (by rw [atK_succ HAA.out HPP.out, decide_eq_false hle, Bool.and_false])])
            have d2 : decide ((j : Int) < p) = true := decide_eq_true (by omega)
            have hlt3 : (j : Int) < p := by omega
            rcases hkk with rfl | rfl
            all_goals
              go_wp2_with fail
              refine wp_region_on (by kernel_rfl) (by kernel_rfl) ?_
              repeat (go_big_quiet_step (fail))
              refine wpQuiet_nil ?_
              intro w5 hw'
              obtain ⟨⟨w6, hOn⟩, hw''⟩ := hw'
              obtain rfl : w5 = w6 := hw''
              go_wp2_with fail
              go_ret
              exact ⟨ret_int HR.out.symm, below_then HO.out hOn⟩
      · have HR := Lib.hid (show v = 4 by
          rw [← HV.out, chk_at (k := k) (by have := HLO.out; omega) (atK_no HAA.out (by rw [HLK.out]; simpa using hkk))])
        have k2 : (kd != 2) = true := by simp; omega
        have k3 : (kd != 3) = true := by simp; omega
        clear cp
        go_wp2_with fail
        refine wp_region_on (by kernel_rfl) (by kernel_rfl) ?_
        repeat (go_big_quiet_step (fail))
        refine wpQuiet_nil ?_
        intro w5 hw'
        obtain ⟨⟨w6, hOn⟩, hw''⟩ := hw'
        obtain rfl : w5 = w6 := hw''
        go_wp2_with fail
        go_ret
        exact ⟨ret_int HR.out.symm, below_then HO.out hOn⟩
    · obtain rfl : k = m := by omega
      go_wp2_with fail
      go_loopw [6, 7, 8] (fun i c' k' wq => ∃ i9 : Nat, i = .int .i64 (i9 : Int) ∧ i9 ≤ n ∧ Hid (∀ j, j < i9 → manyK L of j = true) ∧ Hid (On w wq)) (fun i _ _ _ => n - (intOf i).toNat)
      case atStart => exact ⟨0, rfl, Nat.zero_le _, Lib.hid (fun j hj => by omega), HO⟩
      case round =>
        obtain ⟨i, rfl, hin, HM, HOQ⟩ := hrel
        by_cases hli : i < n
        · have hli2 : (i : Int) < (n : Int) := by omega
          have hi0 : (0 : Int) ≤ (i : Int) := by omega
          have hwi : IntKind.i64.wrap ((i : Int) + 1) = (i : Int) + 1 := IntWalk.i64_in _ (by omega)
          go_wp2_with fail
          go_loopw [7, 8] (fun c' k' wz => ∃ t : Nat, c' = .int .i64 ((cntK (of.take t) (i : Int) : Nat) : Int) ∧ k' = .int .i64 (t : Int) ∧ t ≤ k ∧ Hid (On w wz)) (fun _ k' _ => k - (intOf k').toNat)
          case atStart => exact ⟨0, rfl, rfl, Nat.zero_le _, HOQ⟩
          case round =>
            clear HOQ
            obtain ⟨t, rfl, rfl, htm, HOQ⟩ := hrel
            obtain ⟨g, hg⟩ : ∃ g, cntK (of.take t) (i : Int) = g := ⟨_, rfl⟩
            rw [hg]
            have hgt : g ≤ t := by rw [← hg]; exact cnt_le _ _ _
            by_cases htl : t < k
            · have htl2 : (t : Int) < (k : Int) := by omega
              have ha : of[t]? = some (of[t]'(by have := HLO.out; omega)) := List.getElem?_eq_getElem _
              obtain ⟨a, haa⟩ : ∃ a, of[t]'(by have := HLO.out; omega) = a := ⟨_, rfl⟩
              rw [haa] at ha
              obtain ⟨b1, o1, rfl, hb1, c9⟩ := (HI.out.below HOQ.out rfl).2.2 (by omega)
              have c1 := c9 t htl
              clear c9
              rw [ha, Option.getD_some] at c1
              have hwt : IntKind.i64.wrap ((t : Int) + 1) = (t : Int) + 1 := IntWalk.i64_in _ (by omega)
              have HCS := Lib.hid (cnt_succ ha (i : Int))
              rw [hg] at HCS
              clear ha haa hg
              by_cases hai : a = (i : Int)
              · have hq : (a == (i : Int)) = true := by simpa using hai
                have HC2 := Lib.hid (show cntK (of.take (t + 1)) (i : Int) = g + 1 by rw [HCS.out, if_pos hai])
                have hwg : IntKind.i64.wrap ((g : Int) + 1) = (g : Int) + 1 := IntWalk.i64_in _ (by omega)
                clear hai
                go_wp2_with fail
                go_roundw
                case rel => exact ⟨t + 1, by rw [HC2.out]; go_num, by go_num, by omega, HOQ⟩
                case measure => simp [intOf] <;> omega
              · have hq : (a == (i : Int)) = false := by simpa using hai
                have HC2 := Lib.hid (show cntK (of.take (t + 1)) (i : Int) = g by rw [HCS.out, if_neg hai]; rfl)
                clear hai
                go_wp2_with fail
                go_roundw
                case rel => exact ⟨t + 1, by rw [HC2.out], by go_num, by omega, HOQ⟩
                case measure => simp [intOf] <;> omega
            · obtain rfl : t = k := by omega
              have htl2 : (t : Int) ≤ (t : Int) := by omega
              obtain ⟨b2, o2, m2, x2, rfl, hb2, e2, r2, s2⟩ := (HS.out.below HOQ.out).at_ hli
              have c0 : wr.cell? ⟨b2, o2 + i * 20, none⟩ = some (.int .i64 m2.kind) := r2 0 _ rfl
              have c16 : wr.cell? ⟨b2, o2 + i * 20 + 16, none⟩ = some (.slice m2.A m2.n m2.c) := r2 16 _ rfl
              have HK := Lib.hid (show x2.kind = m2.kind ∧ x2.words.length = m2.n from ⟨s2.1.1, s2.2.1⟩)
              have HMK := Lib.hid (manyK_of (of := of) e2)
              rw [HK.out.1, HK.out.2, show cntK of (i : Int) = g by rw [← hg, List.take_of_length_le (by have := HLO.out; omega)]] at HMK
              obtain ⟨kd, hkd⟩ : ∃ kd, m2.kind = kd := ⟨_, rfl⟩
              obtain ⟨nw, hnw⟩ : ∃ nw, m2.n = nw := ⟨_, rfl⟩
              have hnb : nw ≤ 9223372036854775807 := by rw [← hnw]; exact s2.2.2.1
              rw [hkd] at c0 HMK
              rw [hnw] at c16 HMK
              have HNX := Lib.hid (show manyK L of i = true → ∀ j, j < i + 1 → manyK L of j = true from fun h0 j hj => by
                rcases Nat.lt_or_ge j i with h1 | h1
                · exact HM.out j h1
                · obtain rfl : j = i := by omega
                  exact h0)
              have HBD := Lib.hid (show manyK L of i = false → v = 4 from fun h0 => by rw [← HV.out, chk_many (by have := HLN.out; omega) h0])
              clear r2 s2 e2 hkd hnw hg HK
              by_cases k2 : kd = 2
              · subst k2
                by_cases g1 : 1 ≤ g
                · by_cases g2 : g ≤ nw
                  · have HT := Lib.hid (HNX.out (by rw [HMK.out]; simp; omega))
                    have i1 : (1 : Int) ≤ (g : Int) := by omega
                    have i2 : (g : Int) ≤ (nw : Int) := by omega
                    have i3 : decide ((g : Int) < 1) = false := decide_eq_false (by omega)
                    have i4 : decide ((nw : Int) < (g : Int)) = false := decide_eq_false (by omega)
                    clear HNX HBD
                    go_wp2_with fail
                    go_roundw
                    case rel => exact ⟨i + 1, by go_num, by omega, HT, HOQ⟩
                    case measure => simp [intOf] <;> omega
                  · have HT := Lib.hid (HBD.out (by rw [HMK.out]; simp; omega))
                    have i1 : (1 : Int) ≤ (g : Int) := by omega
                    have i2 : (nw : Int) < (g : Int) := by omega
                    have i3 : decide ((g : Int) < 1) = false := decide_eq_false (by omega)
                    have i4 : decide ((nw : Int) < (g : Int)) = true := decide_eq_true (by omega)
                    clear HNX HBD
                    go_wp2_with fail
                    go_ret
                    exact ⟨ret_int HT.out.symm, HOQ.out⟩
                · obtain rfl : g = 0 := by omega
                  have HT := Lib.hid (HBD.out (by rw [HMK.out]; simp))
                  clear HNX HBD
                  go_wp2_with fail
                  go_ret
                  exact ⟨ret_int HT.out.symm, HOQ.out⟩
              · by_cases k3 : kd = 3
                · subst k3
                  by_cases g1 : g = 1
                  · subst g1
                    have HT := Lib.hid (HNX.out (by rw [HMK.out]; simp))
                    clear HNX HBD
                    go_wp2_with fail
                    go_roundw
                    case rel => exact ⟨i + 1, by go_num, by omega, HT, HOQ⟩
                    case measure => simp [intOf] <;> omega
                  · have HT := Lib.hid (HBD.out (by rw [HMK.out]; simpa using g1))
                    have i1 : ((g : Int) != 1) = true := by simp; omega
                    clear HNX HBD
                    go_wp2_with fail
                    go_ret
                    exact ⟨ret_int HT.out.symm, HOQ.out⟩
                · have HT := Lib.hid (HNX.out (by rw [HMK.out, if_neg k2, if_neg k3]; rfl))
                  have i1 : (kd == 2) = false := by simpa using k2
                  have i2 : (kd == 3) = false := by simpa using k3
                  clear HNX HBD
                  go_wp2_with fail
                  go_roundw
                  case rel => exact ⟨i + 1, by go_num, by omega, HT, HOQ⟩
                  case measure => simp [intOf] <;> omega
        · obtain rfl : i = n := by omega
          have HE := Lib.hid (show v = 0 by rw [← HV.out, chk_good HD.out (fun j hj => HA.out j (by have := HLO.out; omega)) (fun j hj => HM.out j (by have := HLN.out; omega))])
          go_wp2_with fail
          go_ret
          exact ⟨ret_int HE.out.symm, HOQ.out⟩
end Go.Proofs.Ytamakeogaipdiaa
