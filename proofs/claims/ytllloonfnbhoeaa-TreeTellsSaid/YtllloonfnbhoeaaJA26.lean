import Derived.Test.YtllloonfnbhoeaaJA24
/- The walk of the law TreeTells, if package tree says what it is asked. (Written by program: tools/drafts/gentells8.py.) -/
namespace Go.Proofs.Ytllloonfnbhoeaa
open Go.RowKit
set_option linter.unusedVariables false
set_option linter.unusedSimpArgs false
theorem IntsOut.seen {w w' : World} {zs : List Int} {e : Ending} (h : IntsOut w zs e w') : IntsSeen w zs e w' := h.ints
theorem RoomsOut.seen {w w' : World} {zs : List (Int × Int)} {e : Ending} (h : RoomsOut w zs e w') : RoomsSeen w zs e w' := h.rows
set_option maxHeartbeats 8000000 in
set_option maxRecDepth 100000 in
theorem treetells_vast (H : TreeSays) {A : Option Addr} {n c : Nat} {l : List Nd} {a : Int} (ha : I64 a) {b : Int} (hb : I64 b) {W : Int} (hW : I64 W) (hv : vast8 l = true) {w : World} (hl : Sees w A n l) : Calls Try.prog 3 #[.slice A n c, .int .i64 a, .int .i64 b, .int .i64 W] w fun e w' => e = .returned (.bool true) ∧ Below w.heap.size w w' := by
  have HH := Lib.hid H
  have HA := Lib.hid hl
  have Ha := Lib.hid ha
  have Hb := Lib.hid hb
  have HW := Lib.hid hW
  clear H hl
  have HV := Lib.hid hv
  clear hv ha hb hW
  go_enter Try.func3, Try.ntmps3
  go_wp2_with fail
  refine (vast8_to HV.out HA.out).mono ?_
  rintro e w1 ⟨rfl, rfl⟩
  go_wp2_with fail
  refine (tawake_any HH.out _).mono ?_
  rintro e w1 ⟨rfl, hb⟩
  have HB := Lib.hid hb
  clear hb
  go_wp2_with fail
  go_ret
  exact ⟨rfl, HB.out⟩
set_option maxHeartbeats 8000000 in
set_option maxRecDepth 100000 in
theorem treetells_bad (H : TreeSays) {A : Option Addr} {n c : Nat} {l : List Nd} {a : Int} (ha : I64 a) {b : Int} (hb : I64 b) {W : Int} (hW : I64 W) (hv : vast8 l = false) (hd : docB l = false) {w : World} (hl : Sees w A n l) : Calls Try.prog 3 #[.slice A n c, .int .i64 a, .int .i64 b, .int .i64 W] w fun e w' => e = .returned (.bool true) ∧ Below w.heap.size w w' := by
  have HH := Lib.hid H
  have HA := Lib.hid hl
  have Ha := Lib.hid ha
  have Hb := Lib.hid hb
  have HW := Lib.hid hW
  clear H hl
  obtain ⟨hn, hw⟩ := vast8_no hv
  have hla := HA.out.len
  have HV := Lib.hid hv
  have HD := Lib.hid hd
  have hn2 : n ≤ 60 := by omega
  have HWD := Lib.hid hw
  have P1 := Lib.hid (show parentA l a = -1 by unfold parentA; rw [hd]; rfl)
  have P2 := Lib.hid (show aboveA l a = [] by unfold aboveA; rw [hd]; rfl)
  have P3 := Lib.hid (show kidsA l a = [] by unfold kidsA; rw [hd]; rfl)
  have P4 := Lib.hid (show holdsA l a b = false by unfold holdsA; rw [hd]; rfl)
  have P5 := Lib.hid (show roomsA l W = [] by unfold roomsA; rw [hd]; rfl)
  clear hv hd hn hw hla ha hb hW
  go_enter Try.func3, Try.ntmps3
  go_wp2_with fail
  refine (vast8_to HV.out HA.out).mono ?_
  rintro e w1 ⟨rfl, rfl⟩
  go_wp2_with fail
  refine (rown_any l A n c _ HA.out (by omega) (fun y hy => by have := HWD.out y hy; omega)).mono ?_
  rintro e w1 ⟨A2, c2, rfl, hN, hb⟩
  have HP := Lib.hid (show PreV l w1 A2 n from ⟨hN.sees, by omega⟩)
  have HB := Lib.hid hb
  clear hN hb
  go_wp2_with fail
  refine (HH.out.parent P1.out Ha.out HP.out).mono ?_
  rintro e w2 ⟨rfl, hb⟩
  have HP := Lib.hid (HP.out.below hb)
  have HB := Lib.hid (below_then HB.out hb)
  clear hb
  go_wp2_with fail
  refine (HH.out.above P2.out Ha.out HP.out).mono ?_
  rintro e w3 ⟨A3, n3, c3, rfl, hm3, hi, hb⟩
  have HI3 := Lib.hid hi
  have HM3 := Lib.hid hm3
  clear hm3
  have HP := Lib.hid (HP.out.below hb)
  have HB := Lib.hid (below_then HB.out hb)
  clear hi hb
  go_wp2_with fail
  refine (HH.out.kids P3.out Ha.out HP.out).mono ?_
  rintro e w4 ⟨A4, n4, c4, rfl, hm4, hi, hb⟩
  have HI4 := Lib.hid hi
  have HM4 := Lib.hid hm4
  clear hm4
  have HI3 := Lib.hid (HI3.out.below hb rfl)
  have HP := Lib.hid (HP.out.below hb)
  have HB := Lib.hid (below_then HB.out hb)
  clear hi hb
  go_wp2_with fail
  refine (HH.out.holds P4.out Ha.out Hb.out HP.out).mono ?_
  rintro e w5 ⟨rfl, hb⟩
  have HI4 := Lib.hid (HI4.out.below hb rfl)
  have HI3 := Lib.hid (HI3.out.below hb rfl)
  have HP := Lib.hid (HP.out.below hb)
  have HB := Lib.hid (below_then HB.out hb)
  clear hb
  go_wp2_with fail
  refine (HH.out.rooms P5.out HW.out HP.out).mono ?_
  rintro e w6 ⟨A6, n6, c6, rfl, hm6, hi, hb⟩
  have HI6 := Lib.hid hi
  have HM6 := Lib.hid hm6
  clear hm6
  have HI4 := Lib.hid (HI4.out.below hb rfl)
  have HI3 := Lib.hid (HI3.out.below hb rfl)
  have HP := Lib.hid (HP.out.below hb)
  have HB := Lib.hid (below_then HB.out hb)
  clear hi hb
  have hm3 : n3 = 0 := HM3.out
  have hm4 : n4 = 0 := HM4.out
  have hm6 : n6 = 0 := HM6.out
  subst hm3 hm4 hm6
  go_wp2_with fail
  refine (rsame_to (ndsB_self l) _ HP.out.1 (HA.out.below HB.out)).mono ?_
  rintro e w7 ⟨rfl, hb⟩
  have HI6 := Lib.hid (HI6.out.below hb)
  have HI4 := Lib.hid (HI4.out.below hb rfl)
  have HI3 := Lib.hid (HI3.out.below hb rfl)
  have HB := Lib.hid (below_then HB.out hb)
  clear hb
  go_wp2_with fail
  refine (vIs_to HD.out (HA.out.below HB.out)).mono ?_
  rintro e w8 ⟨rfl, hb⟩
  have HI6 := Lib.hid (HI6.out.below hb)
  have HI4 := Lib.hid (HI4.out.below hb rfl)
  have HI3 := Lib.hid (HI3.out.below hb rfl)
  have HB := Lib.hid (below_then HB.out hb)
  clear hb
  go_wp2_with fail
  refine (tawake_any HH.out _).mono ?_
  rintro e w9 ⟨rfl, hb⟩
  have HB := Lib.hid (below_then HB.out hb)
  clear hb
  go_wp2_with fail
  go_ret
  exact ⟨rfl, HB.out⟩
set_option maxHeartbeats 8000000 in
set_option maxRecDepth 100000 in
theorem treetells_in (H : TreeSays) {A : Option Addr} {n c : Nat} {l : List Nd} {a : Int} (ha : I64 a) {b : Int} (hb : I64 b) {W : Int} (hW : I64 W) (hv : vast8 l = false) (hd : docB l = true) (a1 : -1 ≤ a) (a2 : a < (n : Int)) {w : World} (hl : Sees w A n l) : Calls Try.prog 3 #[.slice A n c, .int .i64 a, .int .i64 b, .int .i64 W] w fun e w' => e = .returned (.bool true) ∧ Below w.heap.size w w' := by
  have HH := Lib.hid H
  have HA := Lib.hid hl
  have Ha := Lib.hid ha
  have Hb := Lib.hid hb
  have HW := Lib.hid hW
  clear H hl
  obtain ⟨hn, hw⟩ := vast8_no hv
  have hla := HA.out.len
  have HV := Lib.hid hv
  have HD := Lib.hid hd
  have hn2 : n ≤ 60 := by omega
  have HWD := Lib.hid hw
  have DOC := Lib.hid ((docB_iff l).1 hd)
  obtain ⟨v1, e1⟩ : ∃ v, parentI l a = v := ⟨_, rfl⟩
  obtain ⟨v2, e2⟩ : ∃ v, aboveI l a = v := ⟨_, rfl⟩
  obtain ⟨v3, e3⟩ : ∃ v, kidsI l a = v := ⟨_, rfl⟩
  obtain ⟨v4, e4⟩ : ∃ v, holdsI l a b = v := ⟨_, rfl⟩
  obtain ⟨v5, e5⟩ : ∃ v, roomsI l W = v := ⟨_, rfl⟩
  have P1 := Lib.hid (show parentA l a = v1 by unfold parentA; rw [hd]; exact e1)
  have P2 := Lib.hid (show aboveA l a = v2 by unfold aboveA; rw [hd]; exact e2)
  have P3 := Lib.hid (show kidsA l a = v3 by unfold kidsA; rw [hd, if_pos (by simp; omega)]; exact e3)
  have a3 : ¬ a < -1 := by omega
  have P4 := Lib.hid (show holdsA l a b = v4 by unfold holdsA; rw [hd]; exact e4)
  have P5 := Lib.hid (show roomsA l W = v5 by unfold roomsA; rw [hd]; exact e5)
  have V1 := Lib.hid e1
  have V2 := Lib.hid e2
  have V3 := Lib.hid e3
  have V4 := Lib.hid e4
  have V5 := Lib.hid e5
  have hpp : (v1 == v1) = true := by simp
  have hhh : (v4 == v4) = true := by simp
  clear hv hd hn hw hla ha hb hW e1 e2 e3 e4 e5
  go_enter Try.func3, Try.ntmps3
  go_wp2_with fail
  refine (vast8_to HV.out HA.out).mono ?_
  rintro e w1 ⟨rfl, rfl⟩
  go_wp2_with fail
  refine (rown_any l A n c _ HA.out (by omega) (fun y hy => by have := HWD.out y hy; omega)).mono ?_
  rintro e w1 ⟨A2, c2, rfl, hN, hb⟩
  have HP := Lib.hid (show PreV l w1 A2 n from ⟨hN.sees, by omega⟩)
  have HB := Lib.hid hb
  clear hN hb
  go_wp2_with fail
  refine (HH.out.parent P1.out Ha.out HP.out).mono ?_
  rintro e w2 ⟨rfl, hb⟩
  have HP := Lib.hid (HP.out.below hb)
  have HB := Lib.hid (below_then HB.out hb)
  clear hb
  go_wp2_with fail
  refine (HH.out.above P2.out Ha.out HP.out).mono ?_
  rintro e w3 ⟨A3, n3, c3, rfl, hm3, hi, hb⟩
  have HI3 := Lib.hid hi
  have HM3 := Lib.hid hm3
  clear hm3
  have HP := Lib.hid (HP.out.below hb)
  have HB := Lib.hid (below_then HB.out hb)
  clear hi hb
  go_wp2_with fail
  refine (HH.out.kids P3.out Ha.out HP.out).mono ?_
  rintro e w4 ⟨A4, n4, c4, rfl, hm4, hi, hb⟩
  have HI4 := Lib.hid hi
  have HM4 := Lib.hid hm4
  clear hm4
  have HI3 := Lib.hid (HI3.out.below hb rfl)
  have HP := Lib.hid (HP.out.below hb)
  have HB := Lib.hid (below_then HB.out hb)
  clear hi hb
  go_wp2_with fail
  refine (HH.out.holds P4.out Ha.out Hb.out HP.out).mono ?_
  rintro e w5 ⟨rfl, hb⟩
  have HI4 := Lib.hid (HI4.out.below hb rfl)
  have HI3 := Lib.hid (HI3.out.below hb rfl)
  have HP := Lib.hid (HP.out.below hb)
  have HB := Lib.hid (below_then HB.out hb)
  clear hb
  go_wp2_with fail
  refine (HH.out.rooms P5.out HW.out HP.out).mono ?_
  rintro e w6 ⟨A6, n6, c6, rfl, hm6, hi, hb⟩
  have HI6 := Lib.hid hi
  have HM6 := Lib.hid hm6
  clear hm6
  have HI4 := Lib.hid (HI4.out.below hb rfl)
  have HI3 := Lib.hid (HI3.out.below hb rfl)
  have HP := Lib.hid (HP.out.below hb)
  have HB := Lib.hid (below_then HB.out hb)
  clear hi hb
  go_wp2_with fail
  refine (rsame_to (ndsB_self l) _ HP.out.1 (HA.out.below HB.out)).mono ?_
  rintro e w7 ⟨rfl, hb⟩
  have HI6 := Lib.hid (HI6.out.below hb)
  have HI4 := Lib.hid (HI4.out.below hb rfl)
  have HI3 := Lib.hid (HI3.out.below hb rfl)
  have HB := Lib.hid (below_then HB.out hb)
  clear hb
  go_wp2_with fail
  refine (vIs_to HD.out (HA.out.below HB.out)).mono ?_
  rintro e w8 ⟨rfl, hb⟩
  have HI6 := Lib.hid (HI6.out.below hb)
  have HI4 := Lib.hid (HI4.out.below hb rfl)
  have HI3 := Lib.hid (HI3.out.below hb rfl)
  have HB := Lib.hid (below_then HB.out hb)
  clear hb
  go_wp2_with fail
  refine (vkids_to DOC.out.2.nested V3.out (HA.out.below HB.out) (by omega)).mono ?_
  intro e w9 hp
  obtain ⟨A9, n9, c9, rfl, hm9, hi, hb⟩ := hp.ints
  have HI9 := Lib.hid hi
  have HI6 := Lib.hid (HI6.out.below hb)
  have HI4 := Lib.hid (HI4.out.below hb rfl)
  have HI3 := Lib.hid (HI3.out.below hb rfl)
  have HB := Lib.hid (below_then HB.out hb)
  clear hp hm9 hi hb
  go_wp2_with fail
  refine (vparent_to DOC.out.2.nested Ha.out V1.out (HA.out.below HB.out) (by omega)).mono ?_
  rintro e w10 ⟨rfl, hb⟩
  have HI6 := Lib.hid (HI6.out.below hb)
  have HI4 := Lib.hid (HI4.out.below hb rfl)
  have HI3 := Lib.hid (HI3.out.below hb rfl)
  have HI9 := Lib.hid (HI9.out.below hb rfl)
  have HB := Lib.hid (below_then HB.out hb)
  clear hb
  go_wp2_with fail
  refine (vabove_to DOC.out.2.nested Ha.out V2.out (HA.out.below HB.out) (by omega)).mono ?_
  intro e w11 hp
  obtain ⟨A11, n11, c11, rfl, hm11, hi, hb⟩ := hp.ints
  have HI11 := Lib.hid hi
  have HI9 := Lib.hid (HI9.out.below hb rfl)
  have HI6 := Lib.hid (HI6.out.below hb)
  have HI4 := Lib.hid (HI4.out.below hb rfl)
  have HI3 := Lib.hid (HI3.out.below hb rfl)
  have HB := Lib.hid (below_then HB.out hb)
  clear hp hm11 hi hb
  go_wp2_with fail
  refine (vints_same HI3.out HI11.out).mono ?_
  rintro e w12 ⟨rfl, hb⟩
  have HI6 := Lib.hid (HI6.out.below hb)
  have HI4 := Lib.hid (HI4.out.below hb rfl)
  have HI3 := Lib.hid (HI3.out.below hb rfl)
  have HI9 := Lib.hid (HI9.out.below hb rfl)
  have HB := Lib.hid (below_then HB.out hb)
  clear hb
  go_wp2_with fail
  refine (vints_same HI4.out HI9.out).mono ?_
  rintro e w13 ⟨rfl, hb⟩
  have HI6 := Lib.hid (HI6.out.below hb)
  have HI4 := Lib.hid (HI4.out.below hb rfl)
  have HI3 := Lib.hid (HI3.out.below hb rfl)
  have HB := Lib.hid (below_then HB.out hb)
  clear hb
  go_wp2_with fail
  refine (vholds_to DOC.out.2.nested V4.out (HA.out.below HB.out) (by omega)).mono ?_
  rintro e w14 ⟨rfl, rfl⟩
  go_wp2_with fail
  refine (vrooms_to DOC.out V5.out (HA.out.below HB.out) (by omega)).mono ?_
  intro e w15 hp
  obtain ⟨A15, n15, c15, rfl, hm15, hi, hb⟩ := hp.rows
  have HI15 := Lib.hid hi
  have HI6 := Lib.hid (HI6.out.below hb)
  have HB := Lib.hid (below_then HB.out hb)
  clear hp hm15 hi hb
  go_wp2_with fail
  refine (rooms_same HI6.out HI15.out).mono ?_
  rintro e w16 ⟨rfl, hb⟩
  have HB := Lib.hid (below_then HB.out hb)
  clear hb
  go_wp2_with fail
  refine (tawake_any HH.out _).mono ?_
  rintro e w17 ⟨rfl, hb⟩
  have HB := Lib.hid (below_then HB.out hb)
  clear hb
  go_wp2_with fail
  go_ret
  exact ⟨rfl, HB.out⟩
set_option maxHeartbeats 8000000 in
set_option maxRecDepth 100000 in
theorem treetells_low (H : TreeSays) {A : Option Addr} {n c : Nat} {l : List Nd} {a : Int} (ha : I64 a) {b : Int} (hb : I64 b) {W : Int} (hW : I64 W) (hv : vast8 l = false) (hd : docB l = true) (a1 : a < -1) {w : World} (hl : Sees w A n l) : Calls Try.prog 3 #[.slice A n c, .int .i64 a, .int .i64 b, .int .i64 W] w fun e w' => e = .returned (.bool true) ∧ Below w.heap.size w w' := by
  have HH := Lib.hid H
  have HA := Lib.hid hl
  have Ha := Lib.hid ha
  have Hb := Lib.hid hb
  have HW := Lib.hid hW
  clear H hl
  obtain ⟨hn, hw⟩ := vast8_no hv
  have hla := HA.out.len
  have HV := Lib.hid hv
  have HD := Lib.hid hd
  have hn2 : n ≤ 60 := by omega
  have HWD := Lib.hid hw
  have DOC := Lib.hid ((docB_iff l).1 hd)
  obtain ⟨v1, e1⟩ : ∃ v, parentI l a = v := ⟨_, rfl⟩
  obtain ⟨v2, e2⟩ : ∃ v, aboveI l a = v := ⟨_, rfl⟩
  obtain ⟨v3, e3⟩ : ∃ v, kidsI l a = v := ⟨_, rfl⟩
  obtain ⟨v4, e4⟩ : ∃ v, holdsI l a b = v := ⟨_, rfl⟩
  obtain ⟨v5, e5⟩ : ∃ v, roomsI l W = v := ⟨_, rfl⟩
  have P1 := Lib.hid (show parentA l a = v1 by unfold parentA; rw [hd]; exact e1)
  have P2 := Lib.hid (show aboveA l a = v2 by unfold aboveA; rw [hd]; exact e2)
  have P3 := Lib.hid (show kidsA l a = [] by unfold kidsA; rw [if_neg (by simp; omega)])
  have P4 := Lib.hid (show holdsA l a b = v4 by unfold holdsA; rw [hd]; exact e4)
  have P5 := Lib.hid (show roomsA l W = v5 by unfold roomsA; rw [hd]; exact e5)
  have V1 := Lib.hid e1
  have V2 := Lib.hid e2
  have V3 := Lib.hid e3
  have V4 := Lib.hid e4
  have V5 := Lib.hid e5
  have hpp : (v1 == v1) = true := by simp
  have hhh : (v4 == v4) = true := by simp
  clear hv hd hn hw hla ha hb hW e1 e2 e3 e4 e5
  go_enter Try.func3, Try.ntmps3
  go_wp2_with fail
  refine (vast8_to HV.out HA.out).mono ?_
  rintro e w1 ⟨rfl, rfl⟩
  go_wp2_with fail
  refine (rown_any l A n c _ HA.out (by omega) (fun y hy => by have := HWD.out y hy; omega)).mono ?_
  rintro e w1 ⟨A2, c2, rfl, hN, hb⟩
  have HP := Lib.hid (show PreV l w1 A2 n from ⟨hN.sees, by omega⟩)
  have HB := Lib.hid hb
  clear hN hb
  go_wp2_with fail
  refine (HH.out.parent P1.out Ha.out HP.out).mono ?_
  rintro e w2 ⟨rfl, hb⟩
  have HP := Lib.hid (HP.out.below hb)
  have HB := Lib.hid (below_then HB.out hb)
  clear hb
  go_wp2_with fail
  refine (HH.out.above P2.out Ha.out HP.out).mono ?_
  rintro e w3 ⟨A3, n3, c3, rfl, hm3, hi, hb⟩
  have HI3 := Lib.hid hi
  have HM3 := Lib.hid hm3
  clear hm3
  have HP := Lib.hid (HP.out.below hb)
  have HB := Lib.hid (below_then HB.out hb)
  clear hi hb
  go_wp2_with fail
  refine (HH.out.kids P3.out Ha.out HP.out).mono ?_
  rintro e w4 ⟨A4, n4, c4, rfl, hm4, hi, hb⟩
  have HI4 := Lib.hid hi
  have HM4 := Lib.hid hm4
  clear hm4
  have HI3 := Lib.hid (HI3.out.below hb rfl)
  have HP := Lib.hid (HP.out.below hb)
  have HB := Lib.hid (below_then HB.out hb)
  clear hi hb
  go_wp2_with fail
  refine (HH.out.holds P4.out Ha.out Hb.out HP.out).mono ?_
  rintro e w5 ⟨rfl, hb⟩
  have HI4 := Lib.hid (HI4.out.below hb rfl)
  have HI3 := Lib.hid (HI3.out.below hb rfl)
  have HP := Lib.hid (HP.out.below hb)
  have HB := Lib.hid (below_then HB.out hb)
  clear hb
  go_wp2_with fail
  refine (HH.out.rooms P5.out HW.out HP.out).mono ?_
  rintro e w6 ⟨A6, n6, c6, rfl, hm6, hi, hb⟩
  have HI6 := Lib.hid hi
  have HM6 := Lib.hid hm6
  clear hm6
  have HI4 := Lib.hid (HI4.out.below hb rfl)
  have HI3 := Lib.hid (HI3.out.below hb rfl)
  have HP := Lib.hid (HP.out.below hb)
  have HB := Lib.hid (below_then HB.out hb)
  clear hi hb
  go_wp2_with fail
  refine (rsame_to (ndsB_self l) _ HP.out.1 (HA.out.below HB.out)).mono ?_
  rintro e w7 ⟨rfl, hb⟩
  have HI6 := Lib.hid (HI6.out.below hb)
  have HI4 := Lib.hid (HI4.out.below hb rfl)
  have HI3 := Lib.hid (HI3.out.below hb rfl)
  have HB := Lib.hid (below_then HB.out hb)
  clear hb
  go_wp2_with fail
  refine (vIs_to HD.out (HA.out.below HB.out)).mono ?_
  rintro e w8 ⟨rfl, hb⟩
  have HI6 := Lib.hid (HI6.out.below hb)
  have HI4 := Lib.hid (HI4.out.below hb rfl)
  have HI3 := Lib.hid (HI3.out.below hb rfl)
  have HB := Lib.hid (below_then HB.out hb)
  clear hb
  go_wp2_with fail
  refine (vkids_to DOC.out.2.nested V3.out (HA.out.below HB.out) (by omega)).mono ?_
  intro e w9 hp
  obtain ⟨A9, n9, c9, rfl, hm9, hi, hb⟩ := hp.ints
  have HI9 := Lib.hid hi
  have HI6 := Lib.hid (HI6.out.below hb)
  have HI4 := Lib.hid (HI4.out.below hb rfl)
  have HI3 := Lib.hid (HI3.out.below hb rfl)
  have HB := Lib.hid (below_then HB.out hb)
  clear hp hm9 hi hb
  go_wp2_with fail
  refine (vparent_to DOC.out.2.nested Ha.out V1.out (HA.out.below HB.out) (by omega)).mono ?_
  rintro e w10 ⟨rfl, hb⟩
  have HI6 := Lib.hid (HI6.out.below hb)
  have HI4 := Lib.hid (HI4.out.below hb rfl)
  have HI3 := Lib.hid (HI3.out.below hb rfl)
  have HI9 := Lib.hid (HI9.out.below hb rfl)
  have HB := Lib.hid (below_then HB.out hb)
  clear hb
  go_wp2_with fail
  refine (vabove_to DOC.out.2.nested Ha.out V2.out (HA.out.below HB.out) (by omega)).mono ?_
  intro e w11 hp
  obtain ⟨A11, n11, c11, rfl, hm11, hi, hb⟩ := hp.ints
  have HI11 := Lib.hid hi
  have HI9 := Lib.hid (HI9.out.below hb rfl)
  have HI6 := Lib.hid (HI6.out.below hb)
  have HI4 := Lib.hid (HI4.out.below hb rfl)
  have HI3 := Lib.hid (HI3.out.below hb rfl)
  have HB := Lib.hid (below_then HB.out hb)
  clear hp hm11 hi hb
  go_wp2_with fail
  refine (vints_same HI3.out HI11.out).mono ?_
  rintro e w12 ⟨rfl, hb⟩
  have HI6 := Lib.hid (HI6.out.below hb)
  have HI4 := Lib.hid (HI4.out.below hb rfl)
  have HI3 := Lib.hid (HI3.out.below hb rfl)
  have HI9 := Lib.hid (HI9.out.below hb rfl)
  have HB := Lib.hid (below_then HB.out hb)
  clear hb
  go_wp2_with fail
  refine (vints_same HI4.out (Ints.nil _ _)).mono ?_
  rintro e w13 ⟨rfl, hb⟩
  have HI6 := Lib.hid (HI6.out.below hb)
  have HI4 := Lib.hid (HI4.out.below hb rfl)
  have HI3 := Lib.hid (HI3.out.below hb rfl)
  have HB := Lib.hid (below_then HB.out hb)
  clear hb
  go_wp2_with fail
  refine (vholds_to DOC.out.2.nested V4.out (HA.out.below HB.out) (by omega)).mono ?_
  rintro e w14 ⟨rfl, rfl⟩
  go_wp2_with fail
  refine (vrooms_to DOC.out V5.out (HA.out.below HB.out) (by omega)).mono ?_
  intro e w15 hp
  obtain ⟨A15, n15, c15, rfl, hm15, hi, hb⟩ := hp.rows
  have HI15 := Lib.hid hi
  have HI6 := Lib.hid (HI6.out.below hb)
  have HB := Lib.hid (below_then HB.out hb)
  clear hp hm15 hi hb
  go_wp2_with fail
  refine (rooms_same HI6.out HI15.out).mono ?_
  rintro e w16 ⟨rfl, hb⟩
  have HB := Lib.hid (below_then HB.out hb)
  clear hb
  go_wp2_with fail
  refine (tawake_any HH.out _).mono ?_
  rintro e w17 ⟨rfl, hb⟩
  have HB := Lib.hid (below_then HB.out hb)
  clear hb
  go_wp2_with fail
  go_ret
  exact ⟨rfl, HB.out⟩
set_option maxHeartbeats 8000000 in
set_option maxRecDepth 100000 in
theorem treetells_high (H : TreeSays) {A : Option Addr} {n c : Nat} {l : List Nd} {a : Int} (ha : I64 a) {b : Int} (hb : I64 b) {W : Int} (hW : I64 W) (hv : vast8 l = false) (hd : docB l = true) (a1 : (n : Int) ≤ a) {w : World} (hl : Sees w A n l) : Calls Try.prog 3 #[.slice A n c, .int .i64 a, .int .i64 b, .int .i64 W] w fun e w' => e = .returned (.bool true) ∧ Below w.heap.size w w' := by
  have HH := Lib.hid H
  have HA := Lib.hid hl
  have Ha := Lib.hid ha
  have Hb := Lib.hid hb
  have HW := Lib.hid hW
  clear H hl
  obtain ⟨hn, hw⟩ := vast8_no hv
  have hla := HA.out.len
  have HV := Lib.hid hv
  have HD := Lib.hid hd
  have hn2 : n ≤ 60 := by omega
  have HWD := Lib.hid hw
  have DOC := Lib.hid ((docB_iff l).1 hd)
  obtain ⟨v1, e1⟩ : ∃ v, parentI l a = v := ⟨_, rfl⟩
  obtain ⟨v2, e2⟩ : ∃ v, aboveI l a = v := ⟨_, rfl⟩
  obtain ⟨v3, e3⟩ : ∃ v, kidsI l a = v := ⟨_, rfl⟩
  obtain ⟨v4, e4⟩ : ∃ v, holdsI l a b = v := ⟨_, rfl⟩
  obtain ⟨v5, e5⟩ : ∃ v, roomsI l W = v := ⟨_, rfl⟩
  have P1 := Lib.hid (show parentA l a = v1 by unfold parentA; rw [hd]; exact e1)
  have P2 := Lib.hid (show aboveA l a = v2 by unfold aboveA; rw [hd]; exact e2)
  have a0 : -1 ≤ a := by omega
  have a3 : ¬ a < -1 := by omega
  have P3 := Lib.hid (show kidsA l a = [] by unfold kidsA; rw [if_neg (by simp; omega)])
  have P4 := Lib.hid (show holdsA l a b = v4 by unfold holdsA; rw [hd]; exact e4)
  have P5 := Lib.hid (show roomsA l W = v5 by unfold roomsA; rw [hd]; exact e5)
  have V1 := Lib.hid e1
  have V2 := Lib.hid e2
  have V3 := Lib.hid e3
  have V4 := Lib.hid e4
  have V5 := Lib.hid e5
  have hpp : (v1 == v1) = true := by simp
  have hhh : (v4 == v4) = true := by simp
  clear hv hd hn hw hla ha hb hW e1 e2 e3 e4 e5
  go_enter Try.func3, Try.ntmps3
  go_wp2_with fail
  refine (vast8_to HV.out HA.out).mono ?_
  rintro e w1 ⟨rfl, rfl⟩
  go_wp2_with fail
  refine (rown_any l A n c _ HA.out (by omega) (fun y hy => by have := HWD.out y hy; omega)).mono ?_
  rintro e w1 ⟨A2, c2, rfl, hN, hb⟩
  have HP := Lib.hid (show PreV l w1 A2 n from ⟨hN.sees, by omega⟩)
  have HB := Lib.hid hb
  clear hN hb
  go_wp2_with fail
  refine (HH.out.parent P1.out Ha.out HP.out).mono ?_
  rintro e w2 ⟨rfl, hb⟩
  have HP := Lib.hid (HP.out.below hb)
  have HB := Lib.hid (below_then HB.out hb)
  clear hb
  go_wp2_with fail
  refine (HH.out.above P2.out Ha.out HP.out).mono ?_
  rintro e w3 ⟨A3, n3, c3, rfl, hm3, hi, hb⟩
  have HI3 := Lib.hid hi
  have HM3 := Lib.hid hm3
  clear hm3
  have HP := Lib.hid (HP.out.below hb)
  have HB := Lib.hid (below_then HB.out hb)
  clear hi hb
  go_wp2_with fail
  refine (HH.out.kids P3.out Ha.out HP.out).mono ?_
  rintro e w4 ⟨A4, n4, c4, rfl, hm4, hi, hb⟩
  have HI4 := Lib.hid hi
  have HM4 := Lib.hid hm4
  clear hm4
  have HI3 := Lib.hid (HI3.out.below hb rfl)
  have HP := Lib.hid (HP.out.below hb)
  have HB := Lib.hid (below_then HB.out hb)
  clear hi hb
  go_wp2_with fail
  refine (HH.out.holds P4.out Ha.out Hb.out HP.out).mono ?_
  rintro e w5 ⟨rfl, hb⟩
  have HI4 := Lib.hid (HI4.out.below hb rfl)
  have HI3 := Lib.hid (HI3.out.below hb rfl)
  have HP := Lib.hid (HP.out.below hb)
  have HB := Lib.hid (below_then HB.out hb)
  clear hb
  go_wp2_with fail
  refine (HH.out.rooms P5.out HW.out HP.out).mono ?_
  rintro e w6 ⟨A6, n6, c6, rfl, hm6, hi, hb⟩
  have HI6 := Lib.hid hi
  have HM6 := Lib.hid hm6
  clear hm6
  have HI4 := Lib.hid (HI4.out.below hb rfl)
  have HI3 := Lib.hid (HI3.out.below hb rfl)
  have HP := Lib.hid (HP.out.below hb)
  have HB := Lib.hid (below_then HB.out hb)
  clear hi hb
  go_wp2_with fail
  refine (rsame_to (ndsB_self l) _ HP.out.1 (HA.out.below HB.out)).mono ?_
  rintro e w7 ⟨rfl, hb⟩
  have HI6 := Lib.hid (HI6.out.below hb)
  have HI4 := Lib.hid (HI4.out.below hb rfl)
  have HI3 := Lib.hid (HI3.out.below hb rfl)
  have HB := Lib.hid (below_then HB.out hb)
  clear hb
  go_wp2_with fail
  refine (vIs_to HD.out (HA.out.below HB.out)).mono ?_
  rintro e w8 ⟨rfl, hb⟩
  have HI6 := Lib.hid (HI6.out.below hb)
  have HI4 := Lib.hid (HI4.out.below hb rfl)
  have HI3 := Lib.hid (HI3.out.below hb rfl)
  have HB := Lib.hid (below_then HB.out hb)
  clear hb
  go_wp2_with fail
  refine (vkids_to DOC.out.2.nested V3.out (HA.out.below HB.out) (by omega)).mono ?_
  intro e w9 hp
  obtain ⟨A9, n9, c9, rfl, hm9, hi, hb⟩ := hp.ints
  have HI9 := Lib.hid hi
  have HI6 := Lib.hid (HI6.out.below hb)
  have HI4 := Lib.hid (HI4.out.below hb rfl)
  have HI3 := Lib.hid (HI3.out.below hb rfl)
  have HB := Lib.hid (below_then HB.out hb)
  clear hp hm9 hi hb
  go_wp2_with fail
  refine (vparent_to DOC.out.2.nested Ha.out V1.out (HA.out.below HB.out) (by omega)).mono ?_
  rintro e w10 ⟨rfl, hb⟩
  have HI6 := Lib.hid (HI6.out.below hb)
  have HI4 := Lib.hid (HI4.out.below hb rfl)
  have HI3 := Lib.hid (HI3.out.below hb rfl)
  have HI9 := Lib.hid (HI9.out.below hb rfl)
  have HB := Lib.hid (below_then HB.out hb)
  clear hb
  go_wp2_with fail
  refine (vabove_to DOC.out.2.nested Ha.out V2.out (HA.out.below HB.out) (by omega)).mono ?_
  intro e w11 hp
  obtain ⟨A11, n11, c11, rfl, hm11, hi, hb⟩ := hp.ints
  have HI11 := Lib.hid hi
  have HI9 := Lib.hid (HI9.out.below hb rfl)
  have HI6 := Lib.hid (HI6.out.below hb)
  have HI4 := Lib.hid (HI4.out.below hb rfl)
  have HI3 := Lib.hid (HI3.out.below hb rfl)
  have HB := Lib.hid (below_then HB.out hb)
  clear hp hm11 hi hb
  go_wp2_with fail
  refine (vints_same HI3.out HI11.out).mono ?_
  rintro e w12 ⟨rfl, hb⟩
  have HI6 := Lib.hid (HI6.out.below hb)
  have HI4 := Lib.hid (HI4.out.below hb rfl)
  have HI3 := Lib.hid (HI3.out.below hb rfl)
  have HI9 := Lib.hid (HI9.out.below hb rfl)
  have HB := Lib.hid (below_then HB.out hb)
  clear hb
  go_wp2_with fail
  refine (vints_same HI4.out (Ints.nil _ _)).mono ?_
  rintro e w13 ⟨rfl, hb⟩
  have HI6 := Lib.hid (HI6.out.below hb)
  have HI4 := Lib.hid (HI4.out.below hb rfl)
  have HI3 := Lib.hid (HI3.out.below hb rfl)
  have HB := Lib.hid (below_then HB.out hb)
  clear hb
  go_wp2_with fail
  refine (vholds_to DOC.out.2.nested V4.out (HA.out.below HB.out) (by omega)).mono ?_
  rintro e w14 ⟨rfl, rfl⟩
  go_wp2_with fail
  refine (vrooms_to DOC.out V5.out (HA.out.below HB.out) (by omega)).mono ?_
  intro e w15 hp
  obtain ⟨A15, n15, c15, rfl, hm15, hi, hb⟩ := hp.rows
  have HI15 := Lib.hid hi
  have HI6 := Lib.hid (HI6.out.below hb)
  have HB := Lib.hid (below_then HB.out hb)
  clear hp hm15 hi hb
  go_wp2_with fail
  refine (rooms_same HI6.out HI15.out).mono ?_
  rintro e w16 ⟨rfl, hb⟩
  have HB := Lib.hid (below_then HB.out hb)
  clear hb
  go_wp2_with fail
  refine (tawake_any HH.out _).mono ?_
  rintro e w17 ⟨rfl, hb⟩
  have HB := Lib.hid (below_then HB.out hb)
  clear hb
  go_wp2_with fail
  go_ret
  exact ⟨rfl, HB.out⟩
theorem treetells_walk (H : TreeSays) (A : Option Addr) (n c : Nat) (l : List Nd) (hc : n ≤ c ∧ c ≤ 9223372036854775807) (a : Int) (ha : -9223372036854775808 ≤ a ∧ a ≤ 9223372036854775807) (b : Int) (hb : -9223372036854775808 ≤ b ∧ b ≤ 9223372036854775807) (W : Int) (hW : -9223372036854775808 ≤ W ∧ W ≤ 9223372036854775807) (w : World) (hl : Sees w A n l) : Calls Try.prog 3 #[.slice A n c, .int .i64 a, .int .i64 b, .int .i64 W] w fun e w' => e = .returned (.bool true) ∧ Below w.heap.size w w' := by
  rcases hv : vast8 l with _ | _
  · rcases hd : docB l with _ | _
    · exact treetells_bad H ha hb hW hv hd hl
    · by_cases h1 : a < -1
      · exact treetells_low H ha hb hW hv hd h1 hl
      · by_cases h2 : a < (n : Int)
        · exact treetells_in H ha hb hW hv hd (by omega) h2 hl
        · exact treetells_high H ha hb hW hv hd (by omega) hl
  · exact treetells_vast H ha hb hW hv hl
end Go.Proofs.Ytllloonfnbhoeaa
