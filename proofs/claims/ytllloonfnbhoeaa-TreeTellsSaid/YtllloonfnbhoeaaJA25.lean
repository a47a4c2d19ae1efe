import Derived.Test.YtllloonfnbhoeaaJA24
import Derived.BigQuiet
/- The walk of the law TreeRooms, if package tree says what it is asked. (Written by program: tools/drafts/genrooms8.py.) -/
namespace Go.Proofs.Ytllloonfnbhoeaa
open Go.RowKit
set_option linter.unusedVariables false
set_option linter.unusedSimpArgs false
set_option maxHeartbeats 8000000 in
set_option maxRecDepth 100000 in
theorem treerooms_vast (H : TreeSays) {A : Option Addr} {n c : Nat} {l : List Nd} {W : Int} (hW : I64 W) (hv : vast8 l = true) {w : World} (hl : Sees w A n l) : Calls Try.prog 5 #[.slice A n c, .int .i64 W] w fun e w' => e = .returned (.bool true) ∧ Below w.heap.size w w' := by
  have HH := Lib.hid H
  have HA := Lib.hid hl
  have HW := Lib.hid hW
  clear H hl
  have HV := Lib.hid hv
  clear hv hW
  go_enter Try.func5, Try.ntmps5
  go_wp2_with fail
  refine (vast8_to HV.out HA.out).mono ?_
  rintro e w1 ⟨rfl, rfl⟩
  go_wp2_with fail
  refine (tawake_any HH.out _).mono ?_
  rintro e w1 ⟨rfl, hb⟩
  have HB := Lib.hid hb
  clear hb
  go_wp2_with fail
  go_ret
  exact ⟨rfl, HB.out⟩
set_option maxHeartbeats 8000000 in
set_option maxRecDepth 100000 in
theorem treerooms_bad (H : TreeSays) {A : Option Addr} {n c : Nat} {l : List Nd} {W : Int} (hW : I64 W) (hv : vast8 l = false) (hd : docB l = false) {w : World} (hl : Sees w A n l) : Calls Try.prog 5 #[.slice A n c, .int .i64 W] w fun e w' => e = .returned (.bool true) ∧ Below w.heap.size w w' := by
  have HH := Lib.hid H
  have HA := Lib.hid hl
  have HW := Lib.hid hW
  clear H hl
  obtain ⟨hn, hw⟩ := vast8_no hv
  have hla := HA.out.len
  have HV := Lib.hid hv
  have hn2 : n ≤ 60 := by omega
  have HD := Lib.hid hd
  have P5 := Lib.hid (show roomsA l W = [] by unfold roomsA; rw [hd]; rfl)
  clear hd
  clear hv hn hw hla hW
  go_enter Try.func5, Try.ntmps5
  go_wp2_with fail
  refine (vast8_to HV.out HA.out).mono ?_
  rintro e w1 ⟨rfl, rfl⟩
  go_wp2_with fail
  refine (HH.out.rooms P5.out HW.out ⟨HA.out, by omega⟩).mono ?_
  rintro e w1 ⟨A6, n6, c6, rfl, hm6, hi, hb⟩
  have HI6 := Lib.hid hi
  have HM6 := Lib.hid hm6
  have HB := Lib.hid hb
  clear hi hb hm6
  obtain rfl : n6 = 0 := HM6.out
  clear HM6
  go_wp2_with fail
  refine (pIs_to HD.out ⟨HA.out.below HB.out, by omega⟩).mono ?_
  rintro e w2 ⟨rfl, hb⟩
  have HI6 := Lib.hid (HI6.out.below hb)
  have HB := Lib.hid (below_then HB.out hb)
  clear hb
  go_wp2_with fail
  refine (tawake_any HH.out _).mono ?_
  rintro e w9 ⟨rfl, hb⟩
  have HB := Lib.hid (below_then HB.out hb)
  clear hb
  go_wp2_with fail
  go_ret
  exact ⟨rfl, HB.out⟩
set_option maxHeartbeats 8000000 in
set_option maxRecDepth 100000 in
theorem treerooms_low (H : TreeSays) {A : Option Addr} {n c : Nat} {l : List Nd} {W : Int} (hW : I64 W) (hv : vast8 l = false) (hd : docB l = true) (h1 : W < 1) {w : World} (hl : Sees w A n l) : Calls Try.prog 5 #[.slice A n c, .int .i64 W] w fun e w' => e = .returned (.bool true) ∧ Below w.heap.size w w' := by
  have HH := Lib.hid H
  have HA := Lib.hid hl
  have HW := Lib.hid hW
  clear H hl
  obtain ⟨hn, hw⟩ := vast8_no hv
  have hla := HA.out.len
  have HV := Lib.hid hv
  have hn2 : n ≤ 60 := by omega
  have HD := Lib.hid hd
  have P5 := Lib.hid (show roomsA l W = [] by unfold roomsA roomsI; rw [hd, if_pos rfl, if_pos (.inl h1)])
  clear hd
  clear hv hn hw hla hW
  go_enter Try.func5, Try.ntmps5
  go_wp2_with fail
  refine (vast8_to HV.out HA.out).mono ?_
  rintro e w1 ⟨rfl, rfl⟩
  go_wp2_with fail
  refine (HH.out.rooms P5.out HW.out ⟨HA.out, by omega⟩).mono ?_
  rintro e w1 ⟨A6, n6, c6, rfl, hm6, hi, hb⟩
  have HI6 := Lib.hid hi
  have HM6 := Lib.hid hm6
  have HB := Lib.hid hb
  clear hi hb hm6
  obtain rfl : n6 = 0 := HM6.out
  clear HM6
  go_wp2_with fail
  refine (pIs_to HD.out ⟨HA.out.below HB.out, by omega⟩).mono ?_
  rintro e w2 ⟨rfl, hb⟩
  have HI6 := Lib.hid (HI6.out.below hb)
  have HB := Lib.hid (below_then HB.out hb)
  clear hb
  go_wp2_with fail
  refine (tawake_any HH.out _).mono ?_
  rintro e w9 ⟨rfl, hb⟩
  have HB := Lib.hid (below_then HB.out hb)
  clear hb
  go_wp2_with fail
  go_ret
  exact ⟨rfl, HB.out⟩
set_option maxHeartbeats 8000000 in
set_option maxRecDepth 100000 in
theorem treerooms_high (H : TreeSays) {A : Option Addr} {n c : Nat} {l : List Nd} {W : Int} (hW : I64 W) (hv : vast8 l = false) (hd : docB l = true) (h1 : 1099511627776 < W) {w : World} (hl : Sees w A n l) : Calls Try.prog 5 #[.slice A n c, .int .i64 W] w fun e w' => e = .returned (.bool true) ∧ Below w.heap.size w w' := by
  have HH := Lib.hid H
  have HA := Lib.hid hl
  have HW := Lib.hid hW
  clear H hl
  obtain ⟨hn, hw⟩ := vast8_no hv
  have hla := HA.out.len
  have HV := Lib.hid hv
  have hn2 : n ≤ 60 := by omega
  have HD := Lib.hid hd
  have h2 : ¬ W < 1 := by omega
  have P5 := Lib.hid (show roomsA l W = [] by unfold roomsA roomsI; rw [hd, if_pos rfl, if_pos (.inr h1)])
  clear hd
  clear hv hn hw hla hW
  go_enter Try.func5, Try.ntmps5
  go_wp2_with fail
  refine (vast8_to HV.out HA.out).mono ?_
  rintro e w1 ⟨rfl, rfl⟩
  go_wp2_with fail
  refine (HH.out.rooms P5.out HW.out ⟨HA.out, by omega⟩).mono ?_
  rintro e w1 ⟨A6, n6, c6, rfl, hm6, hi, hb⟩
  have HI6 := Lib.hid hi
  have HM6 := Lib.hid hm6
  have HB := Lib.hid hb
  clear hi hb hm6
  obtain rfl : n6 = 0 := HM6.out
  clear HM6
  go_wp2_with fail
  refine (pIs_to HD.out ⟨HA.out.below HB.out, by omega⟩).mono ?_
  rintro e w2 ⟨rfl, hb⟩
  have HI6 := Lib.hid (HI6.out.below hb)
  have HB := Lib.hid (below_then HB.out hb)
  clear hb
  go_wp2_with fail
  refine (tawake_any HH.out _).mono ?_
  rintro e w9 ⟨rfl, hb⟩
  have HB := Lib.hid (below_then HB.out hb)
  clear hb
  go_wp2_with fail
  go_ret
  exact ⟨rfl, HB.out⟩
set_option maxHeartbeats 8000000 in
set_option maxRecDepth 100000 in
theorem treerooms_in (H : TreeSays) {A : Option Addr} {n c : Nat} {l : List Nd} {W : Int} (hW : I64 W) (hv : vast8 l = false) (hd : docB l = true) (wa : 1 ≤ W) (wb : W ≤ 1099511627776) {w : World} (hl : Sees w A n l) : Calls Try.prog 5 #[.slice A n c, .int .i64 W] w fun e w' => e = .returned (.bool true) ∧ Below w.heap.size w w' := by
  have HH := Lib.hid H
  have HA := Lib.hid hl
  have HW := Lib.hid hW
  clear H hl
  obtain ⟨hn, hw⟩ := vast8_no hv
  have hla := HA.out.len
  have HV := Lib.hid hv
  have HLA := Lib.hid hla
  have HD := Lib.hid hd
  have hn2 : n ≤ 60 := by omega
  have DOC := Lib.hid ((docB_iff l).1 hd)
  have P5 := Lib.hid (show roomsA l W = roomsTo l W l.length by unfold roomsA roomsI; rw [hd, if_pos rfl, if_neg (fun hq => hq.elim (by omega) (by unfold maxX; omega))])
  have HPN := Lib.hid (show ∀ (k : Nat), parentP l k = none → k < n → parentA l (k : Int) = -1 from fun k h hk => by unfold parentA; rw [hd, if_pos rfl]; exact parentI_none (by omega) h)
  have HPS := Lib.hid (show ∀ (k p : Nat), parentP l k = some p → k < n → parentA l (k : Int) = (p : Int) from fun k p h hk => by unfold parentA; rw [hd, if_pos rfl]; exact parentI_some (by omega) h)
  have w3 : ¬ W < 1 := by omega
  have w4 : ¬ 1099511627776 < W := by omega
  have hqn : ((n : Int) != (n : Int)) = false := by simp
  clear hv hd hn hw hla hW
  go_enter Try.func5, Try.ntmps5
  go_wp2_with fail
  refine (vast8_to HV.out HA.out).mono ?_
  rintro e w1 ⟨rfl, rfl⟩
  go_wp2_with fail
  refine (HH.out.rooms P5.out HW.out ⟨HA.out, by omega⟩).mono ?_
  rintro e w1 ⟨A6, n6, c6, rfl, hm6, hi, hb⟩
  have HI6 := Lib.hid hi
  have HM6 := Lib.hid hm6
  have HB := Lib.hid hb
  clear hi hb hm6
  obtain rfl : n = n6 := by have := HM6.out; rw [roomsTo_len] at this; have := HLA.out; omega
  clear HM6
  go_wp2_with fail
  refine (pIs_to HD.out ⟨HA.out.below HB.out, by omega⟩).mono ?_
  rintro e w2 ⟨rfl, hb⟩
  have HI6 := Lib.hid (HI6.out.below hb)
  have HB := Lib.hid (below_then HB.out hb)
  clear hb
  go_wp2_with fail
  go_loopw [6, 7, 8] (fun i p q wr => ∃ k : Nat, k ≤ n ∧ i = .int .i64 (k : Int) ∧ On w2 wr) (fun i p q _ => n - (intOf i).toNat)
  case atStart => exact ⟨0, Nat.zero_le _, rfl, On.refl _⟩
  case round =>
    obtain ⟨k, hkn, rfl, hon⟩ := hrel
    have HO := Lib.hid hon
    have HBW := Lib.hid (below_then HB.out (show Below w2.heap.size w2 wr from hon))
    clear hon
    by_cases hlt : k < n
    · have hk2 : (k : Int) < (n : Int) := by omega
      cases hp : parentP l k with
      | none =>
        have HP := Lib.hid (HPN.out k hp hlt)
        have HR := Lib.hid (room_top (w := W) hp)
        clear hp
        have hkk : ¬ ((-1 : Int) ≥ (k : Int)) := by omega
        go_wp2_with fail
        refine (HH.out.parent HP.out (by unfold I64; omega) ⟨HA.out.below HBW.out, by omega⟩).mono ?_
        rintro e w3 ⟨rfl, hb⟩
        have HO := Lib.hid (HO.out.step hb)
        obtain ⟨b1, o1, x1, y1, rfl, hb1, hz, c0, c1⟩ := rooms_at (HI6.out.below HO.out) hlt
        have HZ := Lib.hid hz
        obtain ⟨rfl, rfl⟩ : x1 = 0 ∧ W = y1 := by
          have := HZ.out
          rw [roomsTo_get (by have := HLA.out; omega), HR.out] at this
          injection this with this
          injection this with e1 e2
          exact ⟨e1.symm, e2⟩
        have he := room_same 0 W
        clear hz hb
        go_wp2_with fail
        go_roundw
        case rel => exact ⟨k + 1, by omega, by go_num, HO.out⟩
        case measure => simp [intOf] <;> omega
      | some p =>
        have hpk := (parent_lt hp).1
        have HP := Lib.hid (HPS.out k p hp hlt)
        have HRI := Lib.hid (room_in DOC.out.1 wa (show W ≤ maxX from wb) hp)
        have HBD := Lib.hid (room_bd DOC.out.1 wa (show W ≤ maxX from wb) k)
        have HBP := Lib.hid (room_bd DOC.out.1 wa (show W ≤ maxX from wb) p)
        have HIN := Lib.hid (inset_bd DOC.out.1 p)
        clear hp
        have hpn : p < n := by omega
        have hp1 : ¬ ((p : Int) < -1) := by omega
        have hp2 : ¬ ((p : Int) ≥ (k : Int)) := by omega
        have hp3 : ¬ ((p : Int) < 0) := by omega
        have hp4 : (p : Int) < (n : Int) := by omega
        go_wp2_with fail
        refine (HH.out.parent HP.out (by unfold I64; omega) ⟨HA.out.below HBW.out, by omega⟩).mono ?_
        rintro e w3 ⟨rfl, hb⟩
        have HO := Lib.hid (HO.out.step hb)
        have HB3 := Lib.hid (below_then HBW.out hb)
        obtain ⟨b1, o1, x1, y1, rfl, hb1, hz, c0, c1⟩ := rooms_at (HI6.out.below HO.out) hlt
        obtain ⟨b1', o1', x2, y2, hee, hb2, hz2, d0, d1⟩ := rooms_at (HI6.out.below HO.out) hpn
        injection hee with hee
        injection hee with hee1 hee2
        subst hee1 hee2
        obtain ⟨b4, o4, m4, nd4, rfl, hb4, e4, r4, s4⟩ := (HA.out.below HB3.out).at_ hpn
        have hins : insetAt l p = m4.sty.inset := by unfold insetAt; rw [e4]; show nd4.sty.inset = _; rw [s4.1.2.2.1]
        have g0 : w3.cell? ⟨b4, o4 + p * 20 + 2 + 4, none⟩ = some (.int .i64 m4.sty.inset) := r4 6 _ rfl
        rw [roomsTo_get (by have := HLA.out; omega)] at hz hz2
        injection hz with hz
        injection hz2 with hz2
        obtain ⟨f1, f2, f3, f4⟩ := HRI.out
        obtain ⟨p1, p2, p3, p4⟩ := HBD.out
        obtain ⟨q1, q2, q3, q4⟩ := HBP.out
        obtain ⟨i1, i2⟩ := HIN.out
        rw [hz] at f1 f2 f3 f4 p1 p2 p3 p4
        rw [hz2] at f2 f3 f4 q1 q2 q3 q4
        rw [hins] at f4 i1 i2
        obtain ⟨i, hi⟩ : ∃ i, m4.sty.inset = i := ⟨_, rfl⟩
        rw [hi] at f4 i1 i2 g0
        simp only at f1 f2 f3 f4 p1 p2 p3 p4 q1 q2 q3 q4
        unfold maxX at i2 p2 q2
        clear hz hz2 hins hi e4 r4 s4 hb
        have t1 : ¬ y1 < 1 := by omega
        have t2 : ¬ y2 < y1 := by omega
        have t3 : ¬ x1 < x2 := by omega
        have o1 : IntKind.i64.wrap (2 * i) = 2 * i := IntWalk.i64_in _ (by omega)
        have o2 : IntKind.i64.wrap (y2 - 2 * i) = y2 - 2 * i := IntWalk.i64_in _ (by omega)
        have o3 : IntKind.i64.wrap (x2 + i) = x2 + i := IntWalk.i64_in _ (by omega)
        have o4 : IntKind.i64.wrap (x1 + y1) = x1 + y1 := IntWalk.i64_in _ (by omega)
        have o5 : IntKind.i64.wrap (x2 + y2) = x2 + y2 := IntWalk.i64_in _ (by omega)
        have o6 : IntKind.i64.wrap (x2 + y2 - i) = x2 + y2 - i := IntWalk.i64_in _ (by omega)
        have s1 : decide (y1 < 1) = false := decide_eq_false t1
        have s2 : decide (y2 < y1) = false := decide_eq_false t2
        have s3 : decide (x1 < x2) = false := decide_eq_false t3
        by_cases hge : 1 ≤ y2 - 2 * i
        · obtain ⟨u1, u2⟩ := f4 hge
          have v1 : (x1 != x2 + i) = false := by simp [u1]
          have v2 : (x1 + y1 != x2 + y2 - i) = false := by simp [u2]
          have s4 : decide (1 ≤ y2 - 2 * i) = true := decide_eq_true hge
          clear u1 u2 f4
          go_wp2_with fail
          simp only [List.append_eq, List.cons_append, List.nil_append]
          go_quiet (fail)
          go_wp2_with fail
          go_roundw
          case rel => exact ⟨k + 1, by omega, by go_num, below_drewN HO.out _⟩
          case measure => simp [intOf] <;> omega
        · have hge2 : y2 - 2 * i < 1 := by omega
          have s4 : decide (1 ≤ y2 - 2 * i) = false := decide_eq_false (by omega)
          clear f4
          go_wp2_with fail
          simp only [List.append_eq, List.cons_append, List.nil_append]
          go_quiet (fail)
          go_wp2_with fail
          go_roundw
          case rel => exact ⟨k + 1, by omega, by go_num, below_drewN HO.out _⟩
          case measure => simp [intOf] <;> omega
    · have hk2 : (n : Int) ≤ (k : Int) := by omega
      go_wp2_with fail
      refine (tawake_any HH.out _).mono ?_
      rintro e w9 ⟨rfl, hb⟩
      have HB := Lib.hid (below_then HBW.out hb)
      clear hb
      go_wp2_with fail
      go_ret
      exact ⟨rfl, HB.out⟩
theorem treerooms_walk (H : TreeSays) (A : Option Addr) (n c : Nat) (l : List Nd) (hc : n ≤ c ∧ c ≤ 9223372036854775807) (W : Int) (hW : -9223372036854775808 ≤ W ∧ W ≤ 9223372036854775807) (w : World) (hl : Sees w A n l) : Calls Try.prog 5 #[.slice A n c, .int .i64 W] w fun e w' => e = .returned (.bool true) ∧ Below w.heap.size w w' := by
  rcases hv : vast8 l with _ | _
  · rcases hd : docB l with _ | _
    · exact treerooms_bad H hW hv hd hl
    · by_cases h1 : W < 1
      · exact treerooms_low H hW hv hd h1 hl
      · by_cases h2 : 1099511627776 < W
        · exact treerooms_high H hW hv hd h2 hl
        · exact treerooms_in H hW hv hd (by omega) (by omega) hl
  · exact treerooms_vast H hW hv hl
end Go.Proofs.Ytllloonfnbhoeaa
