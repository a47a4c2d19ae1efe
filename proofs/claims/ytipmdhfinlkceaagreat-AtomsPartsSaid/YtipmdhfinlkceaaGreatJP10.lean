import Derived.Test.YtipmdhfinlkceaaGreatJP03
import Derived.Test.YtipmdhfinlkceaaGreatJP01
import Derived.Test.YtipmdhfinlkceaaGreatJP04
import Derived.Deep.MidRow
import Derived.Test.YtipmdhfinlkceaaGreatJP05
import Derived.Test.YtipmdhfinlkceaaGreatJP00
import Derived.Deep.QuietTactic
import Derived.BigQuiet
import Derived.Test.YtipmdhfinlkceaaGreatJP06
import Derived.RangeFuncBox
import Derived.RangeFuncNested
import Derived.RangeFuncBound
import Derived.RangeFuncCalls
import Derived.RangeFuncLeaves
import Derived.Shelf.Abstract
import Derived.Shelf.RegionOpen
import Derived.WalkKit
import Derived.OwnWalkIn
import Derived.TacticsInMore
import Derived.LoopNIn
import Derived.LoopIn
import Derived.Maps.AppendAt
import Derived.Lib.MinMax
/- AtomsSearch, BandsEq, BandsFns, BandsLowest, BandsOf1, LexRef2, PlaceRef, ReadLetter, TreeRef, TreeSeq, ValidAlone, WordsRef2, BandsNext1, LinesRef, TreePar, TreeRef3, TreeRmT, TreeWithin. -/
set_option linter.unusedVariables false
set_option linter.unusedSimpArgs false
namespace Go.Proofs.YtipmdhfinlkceaaGreat
open Go.RowKit
set_option maxHeartbeats 2000000 in
set_option maxRecDepth 100000 in
theorem abeg1_to {l : List Am} {x : Int} {v : Bool} {b j : Nat} {A : Option Addr} {n c : Nat} {y : Am} {w : World} (h : Rows 8 encAm w A n l) (c0 : w.cell? ⟨b, 0, none⟩ = some (.slice A n c)) (c1 : w.cell? ⟨b + 1, 0, none⟩ = some (.int .i64 x)) (hy : l[j]? = some y) (hv : decide (x ≤ y.node) = v) :
    Calls Tryz.prog 51 #[.int .i64 (j : Int), .pointer (some ⟨b, 0, none⟩), .pointer (some ⟨b + 1, 0, none⟩)] w fun e w' => e = .returned (.bool v) ∧ Below w.heap.size w w' := by
  have hl := h.len
  have hj : j < n := by have := (List.getElem?_eq_some_iff.1 hy).1; omega
  have hj2 : (j : Int) < (n : Int) := by omega
  obtain ⟨a, off, y', rfl, hb, hy', c3, c5, c7⟩ := am_at h hj
  obtain rfl : y = y' := by rw [hy] at hy'; injection hy'
  have HV := Lib.hid hv
  obtain ⟨p0, p1, p2, p3, p4, p5, p6, p7⟩ := y
  simp only at c3 HV
  clear h hl hy hy' c5 c7 hv
  go_enter Tryz.func51, Tryz.ntmps51
  go_wp2_with fail
  go_region
  go_wp2_with fail
  go_ret
  exact ⟨ret_bool HV.out, by go_grown⟩
set_option maxHeartbeats 2000000 in
set_option maxRecDepth 100000 in
theorem asearch_to {l : List Am} (hr : Rising l) {x : Int} {b : Nat} {A : Option Addr} {n c : Nat} {w : World} (h : Rows 8 encAm w A n l) (hn : n ≤ 10000000) (c0 : w.cell? ⟨b, 0, none⟩ = some (.slice A n c)) (c1 : w.cell? ⟨b + 1, 0, none⟩ = some (.int .i64 x)) :
    Calls Tryz.prog 50 #[.int .i64 (n : Int), .func (.func 51) #[] #[.pointer (some ⟨b, 0, none⟩), .pointer (some ⟨b + 1, 0, none⟩)]] w fun e w' => e = .returned (.int .i64 (cutA l x : Int)) ∧ Below w.heap.size w w' := by
  have HL := Lib.hid h.len
  have HC := Lib.hid (fun (W : World) (hW : On w W) (j : Nat) (y : Am) (v : Bool) (hy : l[j]? = some y) (hv : decide (x ≤ y.node) = v) => abeg1_to (h.on hW) (On.cell c0 W hW) (On.cell c1 W hW) hy hv)
  have HR := Lib.hid hr
  clear h c0 c1 hr
  go_enter Tryz.func50, Tryz.ntmps50
  go_wp2_with fail
  go_loopw [5, 6] (fun a d wr => ∃ i j : Nat, a = .int .i64 (i : Int) ∧ d = .int .i64 (j : Int) ∧ i ≤ j ∧ j ≤ n ∧ Hid (∀ (k : Nat) (y : Am), k < i → l[k]? = some y → y.node < x) ∧ Hid (∀ (k : Nat) (y : Am), j ≤ k → l[k]? = some y → x ≤ y.node) ∧ Hid (On w wr)) (fun a d _ => (intOf d).toNat - (intOf a).toNat)
  case atStart => exact ⟨0, n, rfl, rfl, Nat.zero_le _, Nat.le_refl _, Lib.hid (fun k y hk => by omega), Lib.hid (fun k y hk hy => by have := (List.getElem?_eq_some_iff.1 hy).1; have := HL.out; omega), Lib.hid (On.refl _)⟩
  case round =>
    obtain ⟨i, j, rfl, rfl, hij, hjn, HA, HD, HO⟩ := hrel
    by_cases hlt : i < j
    · have hlt2 : (i : Int) < (j : Int) := by omega
      obtain ⟨m, hm⟩ : ∃ m : Nat, (i + j) / 2 = m := ⟨_, rfl⟩
      have hm1 : i ≤ m := by omega
      have hm2 : m < j := by omega
      have hy : l[m]? = some (l[m]'(by have := HL.out; omega)) := List.getElem?_eq_getElem _
      obtain ⟨y, hyy⟩ : ∃ y, l[m]'(by have := HL.out; omega) = y := ⟨_, rfl⟩
      rw [hyy] at hy
      have HY := Lib.hid hy
      have HM := Lib.hid hm
      clear hy hyy hm
      go_wp2_with fail
      rw [show ((i : Int) + (j : Int)) / 2 = (m : Int) by have := HM.out; omega]
      rcases hv : decide (x ≤ y.node) with _ | _
      · have HV := Lib.hid hv
        refine (HC.out wr HO.out m y false HY.out hv).mono ?_
        rintro e w1 ⟨rfl, hb⟩
        have HO1 := Lib.hid (HO.out.step hb)
        have HA1 := Lib.hid (show ∀ (k : Nat) (z : Am), k < m + 1 → l[k]? = some z → z.node < x from fun k z hk hz => by
          have h1 := HR.out k m z y (by omega) hz HY.out
          have h2 := of_decide_eq_false HV.out
          omega)
        clear hv hb HC
        go_wp2_with fail
        go_roundw
        case rel => exact ⟨m + 1, j, by go_num, rfl, by omega, hjn, HA1, HD, HO1⟩
        case measure => simp [intOf] <;> omega
      · have HV := Lib.hid hv
        refine (HC.out wr HO.out m y true HY.out hv).mono ?_
        rintro e w1 ⟨rfl, hb⟩
        have HO1 := Lib.hid (HO.out.step hb)
        have HD1 := Lib.hid (show ∀ (k : Nat) (z : Am), m ≤ k → l[k]? = some z → x ≤ z.node from fun k z hk hz => by
          have h1 := HR.out m k y z hk HY.out hz
          have h2 := of_decide_eq_true HV.out
          omega)
        clear hv hb HC
        go_wp2_with fail
        go_roundw
        case rel => exact ⟨i, m, rfl, rfl, hm1, by omega, HA, HD1, HO1⟩
        case measure => simp [intOf] <;> omega
    · obtain rfl : i = j := by omega
      have HE := Lib.hid ((show CutAt l x i from ⟨by have := HL.out; omega, HA.out, HD.out⟩).same (cutA_at HR.out x))
      go_wp2_with fail
      go_ret
      exact ⟨ret_int (by rw [HE.out]), HO.out⟩
set_option maxHeartbeats 2000000 in
set_option maxRecDepth 100000 in
theorem abegin_to {l : List Am} (hr : Rising l) {x v : Int} (hv : (cutA l x : Int) = v) {A : Option Addr} {n c : Nat} {w : World} (h : Rows 8 encAm w A n l) (hn : n ≤ 10000000) :
    Calls Tryz.prog 26 #[.slice A n c, .int .i64 x] w fun e w' => e = .returned (.int .i64 v) ∧ Below w.heap.size w w' := by
  have HR := Lib.hid h
  have HG := Lib.hid hr
  have HV := Lib.hid hv
  clear h hr hv
  go_enter Tryz.func26, Tryz.ntmps26
  go_wp2_with fail
  generalize hW : World.alloc (World.alloc w _) _ = W
  have HB0 := Lib.hid (show Box W w.heap.size [.slice A n c] by rw [← hW]; exact (Box.new w [.slice A n c] _).alloc _)
  have HB1 := Lib.hid (show Box W (w.heap.size + 1) [.int .i64 x] by rw [← hW]; exact box_new _ [.int .i64 x] _ _ (by simp) _ rfl)
  have HO := Lib.hid (show On w W by rw [← hW]; exact (On.alloc (On.refl w) _).alloc _)
  clear hW
  refine (asearch_to HG.out (c := c) (HR.out.on HO.out) hn (HB0.out.2.2 0 _ rfl) (HB1.out.2.2 0 _ rfl)).mono ?_
  rintro e w1 ⟨rfl, hb⟩
  have HO1 := Lib.hid (HO.out.step hb)
  clear hb
  go_wp2_with fail
  go_ret
  exact ⟨ret_int HV.out, HO1.out⟩
set_option maxHeartbeats 4000000 in
set_option maxRecDepth 100000 in
theorem awithin_to {L : List Nd} {l : List Am} (hr : Rising l) (hd : Nested L) {a p q : Int} (hv : wthI L l a = (p, q)) {A2 : Option Addr} {nn cn : Nat} {A : Option Addr} {n c : Nat} {w : World} (hS : Sees w A2 nn L) (h : Rows 8 encAm w A n l) (hn : n ≤ 10000000) (hnn : nn ≤ 100000) :
    Calls Tryz.prog 7 #[.slice A2 nn cn, .slice A n c, .int .i64 a] w fun e w' => e = .returned (.tuple #[.int .i64 p, .int .i64 q]) ∧ Below w.heap.size w w' := by
  have hl := hS.len
  have hll := h.len
  by_cases ha : 0 ≤ a ∧ a < (nn : Int)
  · have HB := Lib.hid (am_in ha)
    obtain ⟨i, rfl⟩ : ∃ i : Nat, a = (i : Int) := ⟨a.toNat, by omega⟩
    have hi2 : (i : Int) < (nn : Int) := ha.2
    have hin : i < nn := by omega
    obtain ⟨b1, o1, m1, x1, rfl, hb1, e1, r1, s1⟩ := hS.at_ hin
    have c1 := r1 1 _ rfl
    have hms : m1.size = x1.size := s1.1.2.1.symm
    have hs := hd i x1 e1
    have hs1 := hs.1
    have hs2 := hs.2.1
    obtain ⟨z, hz⟩ : ∃ z, m1.size = z := ⟨_, rfl⟩
    have c1' : w.cell? ⟨b1, o1 + i * 20 + 1, none⟩ = some (.int .i64 z) := by rw [← hz]; exact c1
    rw [hz] at hms
    rw [← hms] at hs1 hs2
    have hwr : IntKind.i64.wrap ((i : Int) + z) = (i : Int) + z := IntWalk.i64_in _ (by omega)
    obtain ⟨u, hu⟩ : ∃ u, (cutA l (i : Int) : Int) = u := ⟨_, rfl⟩
    obtain ⟨v, hv2⟩ : ∃ v, (cutA l ((i : Int) + z) : Int) = v := ⟨_, rfl⟩
    have HV := Lib.hid (show (p, q) = if v ≤ u then (0, 0) else (u, v) by
      rw [← hv]; unfold wthI
      rw [if_pos ha.1, Int.toNat_natCast, e1]
      simp only
      rw [← hms]
      by_cases hc : cutA l ((i : Int) + z) ≤ cutA l (i : Int)
      · rw [if_pos hc, if_pos (by omega)]
      · rw [if_neg hc, if_neg (by omega), hu, hv2])
    have HC1 := Lib.hid (fun p : OnW w => abegin_to (c := c) hr hu (h.on p.h) hn)
    have HC2 := Lib.hid (fun p : OnW w => abegin_to (c := c) hr hv2 (h.on p.h) hn)
    have k1 : ∀ p : OnW w, p.w.cell? ⟨b1, o1 + i * 20 + 1, none⟩ = some (.int .i64 z) := OnW.cell c1'
    clear hS h hv hl ha hll hr hd r1 s1 hs hms hz c1 c1' hu hv2 e1 hs1 hs2
    by_cases hvu : v ≤ u
    all_goals
      go_enter Tryz.func7, Tryz.ntmps7
      go_wp2_with fail
      refine (nhas_to HB.out _ _ (by omega) _).mono ?_
      rintro e w1 ⟨rfl, rfl⟩
      go_wp2_with fail
      refine wp_region_on (by kernel_rfl) (by kernel_rfl) ?_
      repeat (go_big_quiet_step (first | (go_at_call 26; with_reducible exact Calls.on_of (HC1.out _)) | (go_at_call 26; with_reducible exact Calls.on_of (HC2.out _))))
      refine wpQuiet_nil ?_
      intro w5 hw'
      obtain ⟨⟨w6, hOn⟩, hw''⟩ := hw'
      obtain rfl : w5 = w6 := hw''
      go_wp2_with fail
    · exact bodyPost_ret (v := .tuple #[.int .i64 0, .int .i64 0]) (by simp [results, Tryz.results7, go_sem]) rfl ⟨by have := HV.out; rw [if_pos hvu] at this; injection this with e1 e2; rw [e1, e2], hOn⟩
    · exact bodyPost_ret (v := .tuple #[.int .i64 u, .int .i64 v]) (by simp [results, Tryz.results7, go_sem]) rfl ⟨by have := HV.out; rw [if_neg (by omega)] at this; injection this with e1 e2; rw [e1, e2], hOn⟩
  · have HB := Lib.hid (am_out ha)
    have HV := Lib.hid (show (p, q) = (0, 0) by
      rw [← hv]; unfold wthI
      split
      · rw [List.getElem?_eq_none_iff.2 (by omega)]
      · rfl)
    clear hS h hv hl ha hll
    go_enter Tryz.func7, Tryz.ntmps7
    go_wp2_with fail
    refine (nhas_to HB.out _ _ (by omega) _).mono ?_
    rintro e w1 ⟨rfl, rfl⟩
    go_wp2_with fail
    exact bodyPost_ret (v := .tuple #[.int .i64 0, .int .i64 0]) (by simp [results, Tryz.results7, go_sem]) rfl ⟨by have := HV.out; injection this with e1 e2; rw [e1, e2], by go_grown⟩
theorem partf_int (xs : Array Value) (k : Nat) (v : Value) (h : xs[k]? = some v) (w : World) : (part 3 xs k).run Tryz.prog w = .ok v w := run_part_plain w (by kernel_rfl) h
theorem itef_ok {p : Prop} [Decidable p] {c : Bool} {w : World} : (if p then Result.ok c w else Result.ok false w) = Result.ok (decide p && c) w := by split <;> simp_all
theorem itef_and {b : Bool} {c : Bool} {w : World} : (if (!b) = true then Result.ok false w else Result.ok c w) = Result.ok (b && c) w := by cases b <;> rfl
theorem sp_equal (a0 a1 b0 b1 : Int) (w : World) : (Op.equalIn 10000 112 (.agg #[.int .i64 a0, .int .i64 a1]) (.agg #[.int .i64 b0, .int .i64 b1])).run Tryz.prog w = .ok (a0 == b0 && a1 == b1) w := by
  rw [show (10000 : Nat) = 9999 + 1 from rfl, run_equalIn_struct w 9999 _ _ _ (by kernel_rfl) (by kernel_rfl)]
  have hi : ∀ (a b : Int) (w : World), (Op.equalIn 9999 3 (.int .i64 a) (.int .i64 b)).run Tryz.prog w = .ok (a == b) w := fun a b w => run_equalIn_int w 9998 3 .i64 .i64 a b Tryz.underlying3
  simp [Program.fieldsOf, Tryz.underlying112, Op.eqFields, partf_int, hi, itef_and]
  simp only [itef_ok]
  congr 1
  rw [Bool.eq_iff_iff]
  simp [and_assoc]
theorem Box.new5 (w : World) (a b c d e : Value) (t : TypeId) : Box (w.alloc (.cells #[a, b, c, d, e] t)) w.heap.size [a, b, c, d, e] := Box.new w [a, b, c, d, e] t
theorem Box.of5 {w : World} {n : Nat} {a b c d e : Value} (h : Box w n [a, b, c, d, e]) : (w.cell? ⟨n, 0, none⟩ = some a ∧ w.cell? ⟨n, 1, none⟩ = some b ∧ w.cell? ⟨n, 2, none⟩ = some c ∧ w.cell? ⟨n, 3, none⟩ = some d ∧ w.cell? ⟨n, 4, none⟩ = some e) ∧ n < w.heap.size :=
  ⟨⟨h.2.2 0 _ rfl, h.2.2 1 _ rfl, h.2.2 2 _ rfl, h.2.2 3 _ rfl, h.2.2 4 _ rfl⟩, h.1⟩
theorem placed_to (f : Fl) (w : World) : Calls Tryz.prog 117 #[.agg #[.int .i64 f.node, .int .i64 f.side, .int .i64 f.anchor, .int .i64 f.x, .int .i64 f.y, .int .i64 f.w, .int .i64 f.h]] w fun e w' => e = .returned (.agg #[.int .i64 f.x, .int .i64 f.y, .int .i64 f.w, .int .i64 f.h, .int .i64 f.side]) ∧ Below w.heap.size w w' := by
  obtain ⟨f0, f1, f2, f3, f4, f5, f6⟩ := f
  go_enter Tryz.func117, Tryz.ntmps117
  go_wp2
  refine bodyPost_ret (v := .agg #[.int .i64 f3, .int .i64 f4, .int .i64 f5, .int .i64 f6, .int .i64 f1]) (by simp [results, Tryz.results117, go_sem]) rfl ⟨rfl, by go_grown⟩
theorem bottom_to {x y u h s : Int} (hw : IntKind.i64.wrap (y + h) = y + h) (w : World) : Calls Tryz.prog 84 #[.agg #[.int .i64 x, .int .i64 y, .int .i64 u, .int .i64 h, .int .i64 s]] w fun e w' => e = .returned (.int .i64 (y + h)) ∧ Below w.heap.size w w' := by
  go_enter Tryz.func84, Tryz.ntmps84
  go_wp2
  go_ret
  exact ⟨rfl, by go_grown⟩
def leaveF (x u s a b : Int) : Int × Int := if s = 1 then (max a (x + u), b) else (a, min b x)
theorem leaves_to {x y u h s a b p q : Int} (hv : leaveF x u s a b = (p, q)) (hw : IntKind.i64.wrap (x + u) = x + u) (w : World) :
    Calls Tryz.prog 158 #[.agg #[.int .i64 x, .int .i64 y, .int .i64 u, .int .i64 h, .int .i64 s], .agg #[.int .i64 a, .int .i64 b]] w fun e w' => e = .returned (.agg #[.int .i64 p, .int .i64 q]) ∧ Below w.heap.size w w' := by
  unfold leaveF at hv
  by_cases hs : s = 1
  · rw [if_pos hs] at hv
    have hsb : (s == 1) = true := by simpa using hs
    injection hv with e1 e2
    subst e1 e2
    clear hs
    go_enter Tryz.func158, Tryz.ntmps158
    go_wp2
    refine bodyPost_ret (v := .agg #[.int .i64 (max a (x + u)), .int .i64 b]) (by simp [results, Tryz.results158, go_sem]) rfl ⟨rfl, by go_grown⟩
  · rw [if_neg hs] at hv
    have hsb : (s == 1) = false := by simpa using hs
    injection hv with e1 e2
    subst e1 e2
    clear hs
    go_enter Tryz.func158, Tryz.ntmps158
    go_wp2
    refine bodyPost_ret (v := .agg #[.int .i64 a, .int .i64 (min b x)]) (by simp [results, Tryz.results158, go_sem]) rfl ⟨rfl, by go_grown⟩
theorem narrows_to {x y u h s a b : Int} {v : Bool} (hv : (leaveF x u s a b != (a, b)) = v) (hw : IntKind.i64.wrap (x + u) = x + u) (w : World) :
    Calls Tryz.prog 156 #[.agg #[.int .i64 x, .int .i64 y, .int .i64 u, .int .i64 h, .int .i64 s], .agg #[.int .i64 a, .int .i64 b]] w fun e w' => e = .returned (.bool v) ∧ Below w.heap.size w w' := by
  obtain ⟨⟨p, q⟩, hl⟩ : ∃ r, leaveF x u s a b = r := ⟨_, rfl⟩
  have HL := Lib.hid hl
  rw [hl] at hv
  have he : ∀ w : World, (Op.equalIn 10000 112 (.agg #[.int .i64 p, .int .i64 q]) (.agg #[.int .i64 a, .int .i64 b])).run Tryz.prog w = .ok (!v) w := fun w => by
    rw [sp_equal, ← hv]
    congr 1
    exact (Bool.not_not _).symm
  clear hv hl
  go_enter Tryz.func156, Tryz.ntmps156
  go_wp2_with fail
  generalize hW : (w.alloc (.cells #[.int .i64 x, .int .i64 y, .int .i64 u, .int .i64 h, .int .i64 s] 132)).alloc (.cells #[.int .i64 a, .int .i64 b] 112) = W
  have hX : Box W w.heap.size [.int .i64 x, .int .i64 y, .int .i64 u, .int .i64 h, .int .i64 s] := by rw [← hW]; exact (Box.new5 _ _ _ _ _ _ _).alloc _
  have hY : Box W (w.heap.size + 1) [.int .i64 a, .int .i64 b] := by rw [← hW]; exact Box.new2' _ _ _ _ _ (by simp)
  have HB := Lib.hid (show Below w.heap.size w W by rw [← hW]; go_grown)
  clear hW
  have k0 := OnW.cell (W := W) hX.of5.1.1
  have k1 := OnW.cell (W := W) hX.of5.1.2.1
  have k2 := OnW.cell (W := W) hX.of5.1.2.2.1
  have k3 := OnW.cell (W := W) hX.of5.1.2.2.2.1
  have k4 := OnW.cell (W := W) hX.of5.1.2.2.2.2
  obtain ⟨j0, j1⟩ := OnW.of2 hY
  clear hX hY
  have HC := Lib.hid (fun w => leaves_to (x := x) (y := y) (u := u) (h := h) (s := s) HL.out hw w)
  refine wp_region_on (by kernel_rfl) (by kernel_rfl) ?_
  repeat (go_big_quiet_step (((go_at_call 158; with_reducible exact Calls.on_of (HC.out _)))))
  refine wpQuiet_nil ?_
  intro w5 hw'
  obtain ⟨⟨w6, hOn⟩, hw''⟩ := hw'
  obtain rfl : w5 = w6 := hw''
  go_wp2_with fail
  go_ret
  exact ⟨ret_bool (by simp), below_then HB.out hOn⟩
theorem meets_apart {f : Fl} {y high : Int} : decide (meetS (y, y + max high 1) (f.y, f.y + f.h) = (0, 0)) = !meetsF f y high := by
  unfold meetS tidyS meetsF
  simp only
  by_cases h1 : 0 < f.h <;> by_cases h2 : f.y < y + max high 1 <;> by_cases h3 : y < f.y + f.h
  case pos =>
    rw [if_neg (by omega), decide_eq_true h1, decide_eq_true h2, decide_eq_true h3]
    refine decide_eq_false (fun e => ?_)
    injection e with e1 e2
    omega
  all_goals
    rw [if_pos (by omega)]
    simp [h1, h2, h3]
    try omega
set_option maxHeartbeats 8000000 in
set_option maxRecDepth 100000 in
theorem rlowest_to {l : List Fl} {sides p : Int} {ok : Bool} (hv : lowestL l sides = (p, ok)) (hn : ∀ f ∈ l, f.near) {A : Option Addr} {n c : Nat} {w : World} (h : Rows 7 encFl w A n l) :
    Calls Tryz.prog 61 #[.slice A n c, .int .i64 sides] w fun e w' => e = .returned (.tuple #[.int .i64 p, .bool ok]) ∧ Below w.heap.size w w' := by
  have HA := Lib.hid h
  have HL := Lib.hid h.1
  have hnb := h.2.1
  have HV := Lib.hid hv
  have HN := Lib.hid hn
  clear h hv hn
  go_enter Tryz.func61, Tryz.ntmps61
  go_wp2_with fail
  go_loopw [6, 7, 8] (fun s' fl' i wr => ∃ (k m : Nat) (s : Int) (fl : Bool), i = .int .i64 (k : Int) ∧ s' = .int .i64 s ∧ fl' = .bool fl ∧ k ≤ n ∧ Hid ((l.take k).foldl (lowStep sides) (0, false) = (s, fl)) ∧ wr = w.drewN m) (fun _ _ i _ => n - (intOf i).toNat)
  case atStart => exact ⟨0, 0, 0, false, rfl, rfl, rfl, Nat.zero_le _, Lib.hid rfl, rfl⟩
  case round =>
    obtain ⟨k, m, s, fl, rfl, rfl, rfl, hkn, HF, rfl⟩ := hrel
    by_cases hlt : k < n
    · have hlt2 : (k : Int) < (n : Int) := by omega
      obtain ⟨b1, o1, f, rfl, hb1, hf, q0, q1, q2, q3, q4, q5, q6⟩ := fl_at HA.out hlt
      have HST := Lib.hid (foldl_one (lowStep sides) (0, false) hf)
      have HFN := Lib.hid (HN.out f (List.mem_of_getElem? hf))
      have hyb := HFN.out.2.1
      have hhb := HFN.out.2.2.2
      obtain ⟨f0, f1, f2, f3, f4, f5, f6⟩ := f
      simp only at q0 q1 q2 q3 q4 q5 q6 hyb hhb
      obtain ⟨y1', y2'⟩ := hyb
      obtain ⟨h1', h2'⟩ := hhb
      unfold farB at y1' y2' h1' h2'
      have hwr2 : IntKind.i64.wrap (f4 + f6) = f4 + f6 := IntWalk.i64_in _ (by omega)
      obtain ⟨u, hu⟩ : ∃ u, bits .and .i64 f1 sides = u := ⟨_, rfl⟩
      have HU := Lib.hid (show andI f1 sides = u from hu)
      clear hf q0 q2 q3 q5 HFN
      by_cases hu0 : u = 0
      · have hub : (u == 0) = true := by simpa using hu0
        have HS := Lib.hid (show (l.take (k + 1)).foldl (lowStep sides) (0, false) = (s, fl) by rw [HST.out, HF.out]; unfold lowStep; rw [if_pos (HU.out.trans hu0)])
        clear hu0
        go_wp2_with fail
        go_roundw
        case rel => exact ⟨k + 1, _, _, _, by go_num, rfl, rfl, by omega, HS, rfl⟩
        case measure => simp [intOf] <;> omega
      · have hub : (u == 0) = false := by simpa using hu0
        have HU0 := Lib.hid (show ¬ andI f1 sides = 0 from fun q => hu0 (HU.out.symm.trans q))
        clear hu0
        cases fl with
        | false =>
          have HS := Lib.hid (show (l.take (k + 1)).foldl (lowStep sides) (0, false) = (f4 + f6, true) by rw [HST.out, HF.out]; unfold lowStep; rw [if_neg HU0.out, if_pos (.inl rfl)])
          go_wp2_with fail
          go_big_quiet (fail)
          go_wp2_with fail
          go_big_quiet (fail)
          go_wp2_with fail
          go_roundw
          case rel => exact ⟨k + 1, _, _, _, by go_num, rfl, rfl, by omega, HS, rfl⟩
          case measure => simp [intOf] <;> omega
        | true =>
          by_cases hbest : s < f4 + f6
          · have HS := Lib.hid (show (l.take (k + 1)).foldl (lowStep sides) (0, false) = (f4 + f6, true) by rw [HST.out, HF.out]; unfold lowStep; rw [if_neg HU0.out, if_pos (.inr hbest)])
            go_wp2_with fail
            go_big_quiet (fail)
            go_wp2_with fail
            go_big_quiet (fail)
            go_wp2_with fail
            go_roundw
            case rel => exact ⟨k + 1, _, _, _, by go_num, rfl, rfl, by omega, HS, rfl⟩
            case measure => simp [intOf] <;> omega
          · have hbest2 : f4 + f6 ≤ s := by omega
            have hbd : decide (s < f4 + f6) = false := decide_eq_false hbest
            have HS := Lib.hid (show (l.take (k + 1)).foldl (lowStep sides) (0, false) = (s, true) by rw [HST.out, HF.out]; unfold lowStep; rw [if_neg HU0.out, if_neg (by simp; omega)])
            go_wp2_with fail
            go_big_quiet (fail)
            go_wp2_with fail
            go_roundw
            case rel => exact ⟨k + 1, _, _, _, by go_num, rfl, rfl, by omega, HS, rfl⟩
            case measure => simp [intOf] <;> omega
    · have hge : (n : Int) ≤ (k : Int) := by omega
      have HE := Lib.hid (show (s, fl) = (p, ok) by rw [← HV.out, ← HF.out, List.take_of_length_le (by have := HL.out; omega)]; rfl)
      go_wp2_with fail
      go_ret2
      exact ⟨ret_pair HE.out, below_drewN (Below.refl _ _) m⟩
def Spare (S : List Nat) (w w' : World) : Prop := ∀ n vs, n ∉ S → Box w n vs → Box w' n vs
theorem Spare.refl (S : List Nat) (w : World) : Spare S w w := fun _ _ _ h => h
theorem Spare.trans {S : List Nat} {w w1 w2 : World} (h : Spare S w w1) (k : Spare S w1 w2) : Spare S w w2 := fun n vs hn hb => k n vs hn (h n vs hn hb)
theorem Spare.below {S : List Nat} {w w1 w2 : World} (h : Spare S w w1) (k : Below w1.heap.size w1 w2) : Spare S w w2 := fun n vs hn hb => (h n vs hn hb).below k
theorem Spare.set {S : List Nat} {w w1 : World} {m j : Nat} {v : Value} (h : Spare S w w1) (hm : m ∈ S) : Spare S w (w1.setCell ⟨m, j, none⟩ v) := fun n vs hn hb => (h n vs hn hb).set_other (fun e => hn (e ▸ hm)) j v
set_option maxHeartbeats 1000000 in
theorem of1_to {x y u h s a b p q : Int} (hv : leaveF x u s a b = (p, q)) (hw : IntKind.i64.wrap (x + u) = x + u) {w0 w : World} {k : Nat} (hX : Box w k [.int .i64 a, .int .i64 b]) (hk : w0.heap.size ≤ k) (hB : Below w0.heap.size w0 w) :
    Calls Tryz.prog 157 #[.agg #[.int .i64 x, .int .i64 y, .int .i64 u, .int .i64 h, .int .i64 s], .pointer (some ⟨k, 0, none⟩)] w fun e w' => e = .returned (.tuple #[]) ∧ Box w' k [.int .i64 p, .int .i64 q] ∧ Spare [k] w w' ∧ Below w0.heap.size w0 w' := by
  have HV := Lib.hid hv
  clear hv
  have HX := Lib.hid hX
  obtain ⟨d0, d1, d2, d3, d4⟩ := hX.of2
  go_enter Tryz.func157, Tryz.ntmps157
  go_wp2_with fail
  refine (leaves_to HV.out hw _).mono ?_
  rintro e w1 ⟨rfl, hb⟩
  have hb2 := (Below.refl w0.heap.size w).mono (Nat.le_refl _)
  have hB1 : Below w.heap.size w w1 := below_then (by go_grown) hb
  have HX1 := Lib.hid (HX.out.below hB1)
  obtain ⟨c0, c1, c2, c3, c4⟩ := HX1.out.of2
  clear hb hb2 d0 d1 d2 d3 d4
  go_wp2_with fail
  go_end0
  refine ⟨rfl, (HX1.out.set 0 (.int .i64 p) (by simp)).set 1 (.int .i64 q) (by simp), ?_, ?_⟩
  · exact Spare.set (Spare.set (Spare.below (Spare.refl _ _) hB1) (by simp)) (by simp)
  · exact ((hB.trans (hB1.mono hB.size)).setCell hk _).setCell hk _
theorem ret_i32 {a b : Int} (h : a = b) : Ending.returned (.int .i32 a) = Ending.returned (.int .i32 b) := by rw [h]
theorem size_to {s : ByteArray} {k n : Nat} (hn : sizeB s k = n) (w : World) (hk : k ≤ 800000) (hs : s.size ≤ 800000) : Calls Tryz.prog 54 #[.string s, .int .i64 k] w fun e w' => e = .returned (.int .i64 (n : Int)) ∧ w = w' := by
  subst hn; exact size_any s k w hk hs
set_option maxRecDepth 100000 in
theorem rune_any (s : ByteArray) (k n : Nat) (w : World) (h1 : 1 ≤ n) (h4 : n ≤ 4) (hin : k + n ≤ s.size) (hs : s.size ≤ 800000) : Calls Tryz.prog 56 #[.string s, .int .i64 k, .int .i64 n] w fun e w' => e = .returned (.int .i32 (runeB s k n)) ∧ Below w.heap.size w w' := by
  have hk : k < s.size := by omega
  have hb := bAt_get s k hk
  have hbd := bAt_bd s k
  have hk2 : (k : Int) < (s.size : Int) := by omega
  by_cases hn1 : n = 1
  · subst hn1
    have HR := Lib.hid (show runeB s k 1 = bAt s k from if_pos rfl)
    have o1 : IntKind.i32.wrap (bAt s k) = bAt s k := by rw [IntKind.wrap_i32]; omega
    go_enter Tryz.func56, Tryz.ntmps56
    go_wp2
    go_ret
    exact ⟨ret_i32 HR.out.symm, Below.refl _ _⟩
  · have hnn : ((n : Int) == 1) = false := by simp; omega
    have HR := Lib.hid (show runeB s k n = runeP s k (firstB n) n from if_neg hn1)
    have hcell : (#[Value.int .i64 0, .int .i64 0, .int .i64 192, .int .i64 224, .int .i64 240] : Array Value)[n]? = some (.int .i64 (firstB n)) := by
      rcases (show n = 2 ∨ n = 3 ∨ n = 4 by omega) with rfl | rfl | rfl <;> rfl
    have hfb : 0 ≤ firstB n ∧ firstB n ≤ 240 := by unfold firstB; split <;> (try split) <;> (try split) <;> omega
    have hBd := fun j hj => runeP_bd s k (base := firstB n) (by omega) j hj
    have HBd := Lib.hid hBd
    have hfirst : runeP s k (firstB n) 1 = bAt s k - firstB n := rfl
    have HP1 := Lib.hid hfirst
    clear hfirst
    have hBx : Box (w.alloc (.cells #[.int .i64 0, .int .i64 0, .int .i64 192, .int .i64 224, .int .i64 240] 3)) w.heap.size [.int .i64 0, .int .i64 0, .int .i64 192, .int .i64 224, .int .i64 240] := Box.new _ _ _
    have hc := hBx.2.2 n (.int .i64 (firstB n)) (by simpa using hcell)
    clear hBd hcell
    go_enter Tryz.func56, Tryz.ntmps56
    go_wp2_with fail
    have hB0 : Below w.heap.size w (w.alloc (.cells #[.int .i64 0, .int .i64 0, .int .i64 192, .int .i64 224, .int .i64 240] 3)) := by go_grown
    clear hBx
    generalize w.alloc (.cells #[.int .i64 0, .int .i64 0, .int .i64 192, .int .i64 224, .int .i64 240] 3) = W at hc hB0 ⊢
    have HB0 := Lib.hid hB0
    have hn5 : (n : Int) < 5 := by omega
    have hn0 : (0 : Int) ≤ (n : Int) := by omega
    clear hB0
    go_quiet (fail)
    clear hb
    go_wp2_with fail
    go_loopw [8, 9] (fun v i wr => ∃ j m : Nat, 1 ≤ j ∧ j ≤ n ∧ i = .int .i64 j ∧ v = .int .i64 (runeP s k (firstB n) j) ∧ wr = W.drewN m) (fun _ i _ => n - (intOf i).toNat)
    case atStart => exact ⟨1, _, by omega, by omega, rfl, by rw [HP1.out], rfl⟩
    case round =>
      obtain ⟨j, m, hj1, hj, rfl, rfl, rfl⟩ := hrel
      obtain ⟨hp1, hp2⟩ := HBd.out j (by omega)
      by_cases hlt : j < n
      · have hbj := bAt_get s (k + j) (by omega)
        have hbd2 := bAt_bd s (k + j)
        have HSu := Lib.hid (runeP_succ s k (firstB n) hj1)
        have hkj : (k : Int) + (j : Int) < (s.size : Int) := by omega
        have htn : ((k : Int) + (j : Int)).toNat = k + j := by omega
        go_wp2_with fail
        go_roundw
        case rel => exact ⟨j + 1, _, by omega, by omega, by go_num, by rw [HSu.out], rfl⟩
        case measure => simp [intOf]; omega
      · obtain rfl : j = n := by omega
        have o1 : IntKind.i32.wrap (runeP s k (firstB j) j) = runeP s k (firstB j) j := by rw [IntKind.wrap_i32]; omega
        go_wp2_with fail
        go_ret
        exact ⟨ret_i32 HR.out.symm, below_drewN HB0.out m⟩
theorem rnone_any (a b : Int) (w : World) : Calls Tryz.prog 128 #[.agg #[.int .i64 a, .int .i64 b]] w fun e w' => e = .returned (.bool (decide (b ≤ a))) ∧ Below w.heap.size w w' := by
  go_enter Tryz.func128, Tryz.ntmps128
  go_wp2_with fail
  go_ret
  exact ⟨rfl, by go_grown⟩
theorem rlen_to {a b v : Int} (hv : lenW a b = v) (ha : NearY a) (hb : NearY b) (w : World) : Calls Tryz.prog 96 #[.agg #[.int .i64 a, .int .i64 b]] w fun e w' => e = .returned (.int .i64 v) ∧ Below w.heap.size w w' := by
  obtain ⟨a1, a2⟩ := ha
  obtain ⟨b1, b2⟩ := hb
  unfold farB at a1 a2 b1 b2
  have hw : IntKind.i64.wrap (b - a) = b - a := IntWalk.i64_in _ (by omega)
  have HX := Lib.hid (Box.new2 w (.int .i64 a) (.int .i64 b) 112)
  unfold lenW at hv
  by_cases h : b ≤ a
  · rw [if_pos h] at hv
    have HV := Lib.hid hv
    clear hv
    go_enter Tryz.func96, Tryz.ntmps96
    go_wp2_with fail
    refine (rnone_any _ _ _).mono ?_
    rintro e w1 ⟨rfl, hb⟩
    have HB := Lib.hid (below_then (show Below w.heap.size w _ by go_grown) hb)
    clear hb
    go_wp2_with fail
    go_ret
    exact ⟨ret_int HV.out, HB.out⟩
  · rw [if_neg h] at hv
    have HV := Lib.hid hv
    have h2 : a < b := by omega
    clear hv
    go_enter Tryz.func96, Tryz.ntmps96
    go_wp2_with fail
    refine (rnone_any _ _ _).mono ?_
    rintro e w1 ⟨rfl, hb⟩
    have HB := Lib.hid (below_then (show Below w.heap.size w _ by go_grown) hb)
    obtain ⟨c0, c1, _, _, _⟩ := (HX.out.below hb).of2
    clear hb
    go_wp2_with fail
    go_ret
    exact ⟨ret_int HV.out, HB.out⟩
def lettersZ : ByteArray := ⟨#[109, 110, 112, 113, 105, 111, 119, 104, 66, 65, 73, 99]⟩
def bytesI (t : ByteArray) : List Int := (List.range t.size).map (bAt t)
theorem mem_bytesI {t : ByteArray} {c : Int} : c ∈ bytesI t ↔ ∃ j, j < t.size ∧ bAt t j = c := by unfold bytesI; simp
theorem letters_at : ∀ k, k < 12 → bAt lettersZ k ∈ lettersB := by decide +kernel
theorem letters_all : ∀ c ∈ lettersB, ∃ k, k < 12 ∧ bAt lettersZ k = c := by decide +kernel
theorem letterB_found {l : List Tok} {i : Nat} {told : List Int} {c : Int} (hc : c ∈ lettersB) (h : sgB l i c = true) : letterB l i told = if c ∈ told then 0 else c := by
  have hf : lettersB.find? (sgB l i) = some c := by
    rcases hq : lettersB.find? (sgB l i) with _ | d
    · have := List.find?_eq_none.1 hq c hc
      exact absurd h this
    · have := List.find?_some hq
      by_cases e : d = c
      · rw [e]
      · exact (sg_clash this h e).elim
  unfold letterB
  rw [hf]
theorem letterB_none {l : List Tok} {i : Nat} {told : List Int} (h : ∀ c ∈ lettersB, sgB l i c = false) : letterB l i told = 0 := by
  have hf : lettersB.find? (sgB l i) = none := List.find?_eq_none.2 (fun c hc => by rw [h c hc]; simp)
  unfold letterB
  rw [hf]
theorem rletters_to {z : ByteArray} (hz : lettersZ = z) (w : World) : Calls Tryz.prog 145 #[] w fun e w' => e = .returned (.string z) ∧ w = w' := by
  subst hz; exact rletters_any w
theorem rsign_to {toks : List Tok} {A : Option Addr} {n c' : Nat} {i : Nat} {c : Int} {v : Bool} (hv : sgB toks i c = v) (w : World) (hR : Rows 4 encT w A n toks) (hi : i ≤ 10000000) : Calls Tryz.prog 57 #[.slice A n c', .int .i64 i, .int .i32 c] w fun e w' => e = .returned (.bool v) ∧ w = w' := by
  subst hv; exact rsign_any toks A n c' i c w hR hi
theorem rletter_any (toks : List Tok) (A : Option Addr) (n c' : Nat) (i : Nat) (told : ByteArray) (w : World) (hR : Rows 4 encT w A n toks) (hi : i ≤ 1000000) (ht : told.size ≤ 2000000) :
    Calls Tryz.prog 118 #[.slice A n c', .int .i64 i, .string told] w fun e w' => e = .returned (.int .u8 (letterB toks i (bytesI told))) ∧ Below w.heap.size w w' := by
  have HR := Lib.hid hR
  clear hR
  obtain ⟨z, hz⟩ : ∃ z, lettersZ = z := ⟨_, rfl⟩
  have hzs : z.size = 12 := by rw [← hz]; rfl
  have HZ := Lib.hid hz
  have HL := Lib.hid (show ∀ k, k < 12 → bAt z k ∈ lettersB from hz ▸ letters_at)
  have HA := Lib.hid (show ∀ c ∈ lettersB, ∃ k, k < 12 ∧ bAt z k = c from hz ▸ letters_all)
  clear hz
  go_enter Tryz.func118, Tryz.ntmps118
  go_wp2_with (go_at_call 145; refine (rletters_to HZ.out _).mono ?_; rintro e w' ⟨rfl, rfl⟩)
  go_loopw [8, 9] (fun v u wr => ∃ k : Nat, k ≤ 12 ∧ v = .int .i64 k ∧ (∀ j, j < k → sgB toks i (bAt z j) = false) ∧ wr = w) (fun v _ _ => 12 - (intOf v).toNat)
  case atStart => exact ⟨0, by omega, rfl, fun j hj => by omega, rfl⟩
  case round =>
    obtain ⟨k, hk, rfl, hno, rfl⟩ := hrel
    have HN := Lib.hid hno
    clear hno
    by_cases hlt : k < 12
    · have hkz : k < z.size := by omega
      have hk2 : (k : Int) < (z.size : Int) := by omega
      have hb0 := bAt_get z k hkz
      have hbd := bAt_bd z k
      obtain ⟨c, hc⟩ : ∃ c, bAt z k = c := ⟨_, rfl⟩
      rw [hc] at hb0 hbd
      have HC := Lib.hid hc
      have o1 : IntKind.i32.wrap c = c := by rw [IntKind.wrap_i32]; omega
      clear hc
      rcases hs : sgB toks i c with _ | _
      · have HS := Lib.hid hs
        clear hs
        go_wp2_with (go_at_call 57; refine (rsign_to HS.out _ HR.out (by omega)).mono ?_; rintro e w' ⟨rfl, rfl⟩)
        go_roundw
        case rel => exact ⟨k + 1, by omega, by go_num, fun j hj => by
          by_cases e : j = k
          · subst e; rw [HC.out]; exact HS.out
          · exact HN.out j (by omega), by first | rfl | trivial⟩
        case measure => simp [intOf]; omega
      · have HS := Lib.hid hs
        have hcl : c ∈ lettersB := by rw [← HC.out]; exact HL.out k hlt
        have hv := letterB_found (told := bytesI told) hcl hs
        have HV := Lib.hid hv
        clear hs hv
        go_wp2_with (go_at_call 57; refine (rsign_to HS.out _ HR.out (by omega)).mono ?_; rintro e w' ⟨rfl, rfl⟩)
        obtain ⟨wo, rfl⟩ : ∃ wo : World, wo = wr := ⟨_, rfl⟩
        go_loopw [9] (fun u wr => ∃ k2 m : Nat, k2 ≤ told.size ∧ u = .int .i64 k2 ∧ (∀ j, j < k2 → bAt told j ≠ c) ∧ wr = wo.drewN m) (fun u _ => told.size - (intOf u).toNat)
        case atStart => exact ⟨0, 0, by omega, rfl, fun j hj => by omega, rfl⟩
        case round =>
          obtain ⟨k2, m, hk2', rfl, hno, rfl⟩ := hrel
          have HN2 := Lib.hid hno
          clear hno
          by_cases hlt2 : k2 < told.size
          · have hd0 := bAt_get told k2 hlt2
            have hk3 : (k2 : Int) < (told.size : Int) := by omega
            obtain ⟨d, hd⟩ : ∃ d, bAt told k2 = d := ⟨_, rfl⟩
            rw [hd] at hd0
            have HD := Lib.hid hd
            clear hd
            by_cases hdc : d = c
            · have HR0 := Lib.hid (show letterB toks i (bytesI told) = 0 by rw [HV.out, if_pos (mem_bytesI.2 ⟨k2, hlt2, by rw [HD.out, hdc]⟩)])
              subst hdc
              go_wp2_with fail
              go_quiet (fail)
              go_wp2_with fail
              go_ret
              exact ⟨by rw [HR0.out]; rfl, below_drewN (below_drewN (Below.refl _ _) _) _⟩
            · have hdc2 : (d == c) = false := by simp [hdc]
              go_wp2_with fail
              go_quiet (fail)
              go_wp2_with fail
              go_roundw
              case rel => exact ⟨k2 + 1, _, by omega, by go_num, fun j hj => by
                by_cases e : j = k2
                · subst e; rw [HD.out]; exact hdc
                · exact HN2.out j (by omega), rfl⟩
              case measure => simp [intOf]; omega
          · have HR0 := Lib.hid (show letterB toks i (bytesI told) = c by rw [HV.out, if_neg (by rw [mem_bytesI]; rintro ⟨j, hj, e⟩; exact HN2.out j (by omega) e)])
            have hk3 : (told.size : Int) ≤ (k2 : Int) := by omega
            go_wp2_with fail
            go_ret
            exact ⟨by rw [HR0.out]; rfl, below_drewN (Below.refl _ _) _⟩
    · obtain rfl : k = 12 := by omega
      have hv : letterB toks i (bytesI told) = 0 := letterB_none (fun c hc => by
        obtain ⟨k, hk1, hk2⟩ := HA.out c hc
        rw [← hk2]; exact HN.out k hk1)
      have HV := Lib.hid hv
      clear hv
      go_wp2_with fail
      go_ret
      exact ⟨by rw [HV.out]; rfl, Below.refl _ _⟩
def IntsOut (w : World) (zs : List Int) (e : Ending) (w' : World) : Prop := ∃ A n c, e = .returned (.slice A n c) ∧ w'.ownsRow w.heap.size 3 1 (.slice A n c) n (zs.map (Value.int .i64)) ∧ Below w.heap.size w w'
theorem vhas_to {L : List Nd} {a : Int} {v : Bool} (hv : hasI L a = v) {A : Option Addr} {n c : Nat} {w : World} (h : Sees w A n L) : Calls Tryz.prog 148 #[.slice A n c, .int .i64 a] w fun e w' => e = .returned (.bool v) ∧ w = w' := by
  have hl := h.len
  have hb := h.bound
  subst hv
  by_cases h0 : 0 ≤ a
  · by_cases h1 : a < (n : Int)
    · have HV := Lib.hid (show hasI L a = true from hasI_iff.2 ⟨h0, by omega⟩)
      clear h hl
      go_enter Tryz.func148, Tryz.ntmps148
      go_wp2_with fail
      go_ret
      exact ⟨ret_bool HV.out.symm, rfl⟩
    · have HV := Lib.hid (show hasI L a = false by rcases hq : hasI L a with _ | _; rfl; have := (hasI_iff.1 hq).2; omega)
      have h2 : (n : Int) ≤ a := by omega
      clear h hl
      go_enter Tryz.func148, Tryz.ntmps148
      go_wp2_with fail
      go_ret
      exact ⟨ret_bool HV.out.symm, rfl⟩
  · have HV := Lib.hid (show hasI L a = false by rcases hq : hasI L a with _ | _; rfl; have := (hasI_iff.1 hq).1; omega)
    have h2 : a < 0 := by omega
    clear h hl
    go_enter Tryz.func148, Tryz.ntmps148
    go_wp2_with fail
    go_ret
    exact ⟨ret_bool HV.out.symm, rfl⟩
set_option maxHeartbeats 1000000 in
set_option maxRecDepth 100000 in
theorem vholds_to {L : List Nd} (hn : Nested L) {a b : Int} {v : Bool} (hv : holdsI L a b = v) {A : Option Addr} {n c : Nat} {w : World} (h : Sees w A n L) (hn2 : n ≤ 100000) : Calls Tryz.prog 149 #[.slice A n c, .int .i64 a, .int .i64 b] w fun e w' => e = .returned (.bool v) ∧ w = w' := by
  have HA := Lib.hid h
  have hl := h.len
  rcases hqa : hasI L a with _ | _
  · have HV := Lib.hid (show false = v by rw [← hv]; unfold holdsI; rw [hqa]; rfl)
    have HQ := Lib.hid hqa
    clear h hv hqa hl
    go_enter Tryz.func149, Tryz.ntmps149
    go_wp2_with fail
    refine (vhas_to HQ.out HA.out).mono ?_
    rintro e w1 ⟨rfl, rfl⟩
    go_wp2_with fail
    go_ret
    exact ⟨ret_bool HV.out, rfl⟩
  rcases hqb : hasI L b with _ | _
  · have HV := Lib.hid (show false = v by rw [← hv]; unfold holdsI; rw [hqa, hqb]; rfl)
    have HQ := Lib.hid hqa
    have HQ2 := Lib.hid hqb
    clear h hv hqa hqb hl
    go_enter Tryz.func149, Tryz.ntmps149
    go_wp2_with fail
    refine (vhas_to HQ.out HA.out).mono ?_
    rintro e w1 ⟨rfl, rfl⟩
    go_wp2_with fail
    refine (vhas_to HQ2.out HA.out).mono ?_
    rintro e w1 ⟨rfl, rfl⟩
    go_wp2_with fail
    go_ret
    exact ⟨ret_bool HV.out, rfl⟩
  obtain ⟨a0, a1⟩ := hasI_iff.1 hqa
  obtain ⟨b0, b1⟩ := hasI_iff.1 hqb
  obtain ⟨i, rfl⟩ : ∃ i : Nat, a = (i : Int) := ⟨a.toNat, by omega⟩
  obtain ⟨j, rfl⟩ : ∃ j : Nat, b = (j : Int) := ⟨b.toNat, by omega⟩
  have hin : i < n := by omega
  obtain ⟨b1', o1, m1, x1, rfl, hb1, e1, r1, s1⟩ := h.at_ hin
  have c1 := r1 1 _ rfl
  have hms : m1.size = x1.size := s1.1.2.1.symm
  obtain ⟨z, hz⟩ : ∃ z, m1.size = z := ⟨_, rfl⟩
  have c1' : w.cell? ⟨b1', o1 + i * 20 + 1, none⟩ = some (.int .i64 z) := by rw [← hz]; exact c1
  have hnx := hn i x1 e1
  have hz0 : 1 ≤ z ∧ z ≤ 100000 := by have := hnx.1; have := hnx.2.1; omega
  obtain ⟨z0, z1⟩ := hz0
  have hv2 : holdP L i j = v := by rw [← hv]; unfold holdsI; rw [hqa, hqb]; simp
  have hin2 : (i : Int) < (n : Int) := by omega
  have hjn : (j : Int) < (n : Int) := by omega
  have HQ := Lib.hid hqa
  have HQ2 := Lib.hid hqb
  by_cases hij : i ≤ j
  · by_cases hlt : (j : Int) - (i : Int) < z
    · have HV := Lib.hid (show true = v by rw [← hv2]; exact (holdP_iff.2 ⟨x1, e1, by omega, hij, by omega⟩).symm)
      have h1 : (i : Int) ≤ (j : Int) := by omega
      clear h hv hv2 hqa hqb hl hms hz c1 hnx r1 s1 e1 a0 a1 b0 b1
      go_enter Tryz.func149, Tryz.ntmps149
      go_wp2_with fail
      refine (vhas_to HQ.out HA.out).mono ?_
      rintro e w1 ⟨rfl, rfl⟩
      go_wp2_with fail
      refine (vhas_to HQ2.out HA.out).mono ?_
      rintro e w1 ⟨rfl, rfl⟩
      go_wp2_with fail
      go_ret
      exact ⟨ret_bool HV.out, rfl⟩
    · have HV := Lib.hid (show false = v by
        rw [← hv2]
        rcases hq : holdP L i j with _ | _
        · rfl
        · obtain ⟨x, g1, _, _, g4⟩ := holdP_iff.1 hq
          rw [e1] at g1; injection g1 with g1; subst g1; omega)
      have h1 : (i : Int) ≤ (j : Int) := by omega
      have h2 : z ≤ (j : Int) - (i : Int) := by omega
      have hd : decide ((j : Int) - (i : Int) < z) = false := by simp; omega
      clear h hv hv2 hqa hqb hl hms hz c1 hnx r1 s1 e1 a0 a1 b0 b1 hlt
      go_enter Tryz.func149, Tryz.ntmps149
      go_wp2_with fail
      refine (vhas_to HQ.out HA.out).mono ?_
      rintro e w1 ⟨rfl, rfl⟩
      go_wp2_with fail
      refine (vhas_to HQ2.out HA.out).mono ?_
      rintro e w1 ⟨rfl, rfl⟩
      go_wp2_with fail
      go_ret
      exact ⟨ret_bool HV.out, rfl⟩
  · have HV := Lib.hid (show false = v by
      rw [← hv2]
      rcases hq : holdP L i j with _ | _
      · rfl
      · obtain ⟨x, _, _, g3, _⟩ := holdP_iff.1 hq; omega)
    have h1 : (j : Int) < (i : Int) := by omega
    clear h hv hv2 hqa hqb hl hms hz c1 hnx r1 s1 e1 a0 a1 b0 b1 hij
    go_enter Tryz.func149, Tryz.ntmps149
    go_wp2_with fail
    refine (vhas_to HQ.out HA.out).mono ?_
    rintro e w1 ⟨rfl, rfl⟩
    go_wp2_with fail
    refine (vhas_to HQ2.out HA.out).mono ?_
    rintro e w1 ⟨rfl, rfl⟩
    go_wp2_with fail
    go_ret
    exact ⟨ret_bool HV.out, rfl⟩
theorem cells_ofone (w : World) (t : TypeId) (v : Value) : Cells (w.alloc (.cells #[v] t)) (some ⟨w.heap.size, 0, none⟩) 1 1 [v] :=
  ⟨rfl, by decide, fun _ => ⟨w.heap.size, 0, rfl, by simp, fun j u hu => by
    have := (Box.new w [v] t).2.2 j u hu
    rw [Nat.zero_add]; exact this⟩⟩
theorem int_info8 : (Tryz.prog.info? 3).map (fun i => (i.zero, i.size, i.bytes)) = some (some (.int .i64 0), 1, 8) := by kernel_rfl
def upFrom (L : List Nd) (b k : Nat) : List Nat := (backTo L b b).filter fun i => decide (k ≤ i)
theorem upFrom_all (L : List Nd) (b : Nat) : upFrom L b 0 = backTo L b b := by
  unfold upFrom
  rw [List.filter_eq_self]
  intro i _
  simp
theorem upFrom_none (L : List Nd) (b : Nat) : upFrom L b b = [] := by
  unfold upFrom
  rw [List.filter_eq_nil_iff]
  intro i hi
  have := (up_mem.1 hi).1
  simp; omega
theorem filter_up {L : List Nd} {b : Nat} : ∀ {i k : Nat}, k < i → ((backTo L b i).filter fun j => decide (k ≤ j)) = ((backTo L b i).filter fun j => decide (k + 1 ≤ j)) ++ (if holdP L k b then [k] else [])
  | 0, k, h => by omega
  | i + 1, k, h => by
    have hlow : ∀ m, m ≤ k + 1 → ((backTo L b m).filter fun j => decide (k + 1 ≤ j)) = [] := fun m hm => by
      rw [List.filter_eq_nil_iff]
      intro j hj
      have := (up_mem.1 hj).1
      simp; omega
    rcases Nat.eq_or_lt_of_le (Nat.le_of_lt_succ h) with hk | hk
    · subst hk
      rw [hlow (k + 1) (Nat.le_refl _), up_succ]
      have hno : ((backTo L b k).filter fun j => decide (k ≤ j)) = [] := by
        rw [List.filter_eq_nil_iff]
        intro j hj
        have := (up_mem.1 hj).1
        simp; omega
      split
      · rw [List.filter_cons_of_pos (by simp), hno]; rfl
      · rw [hno]; rfl
    · have ih := filter_up (L := L) (b := b) (i := i) hk
      rw [up_succ]
      split
      · rw [List.filter_cons_of_pos (by simp; omega), List.filter_cons_of_pos (by simp; omega), ih, List.cons_append]
      · exact ih
theorem upFrom_step {L : List Nd} {b k : Nat} (h : k < b) : upFrom L b k = upFrom L b (k + 1) ++ (if holdP L k b then [k] else []) := filter_up h
theorem upFrom_len (L : List Nd) (b k : Nat) : (upFrom L b k).length ≤ b := Nat.le_trans (List.length_filter_le _ _) (up_len b)
def natsI (l : List Nat) : List Int := l.map fun i : Nat => (i : Int)
theorem holdsI_nat {L : List Nd} {i b : Nat} (hi : i < L.length) (hb : b < L.length) : holdsI L (i : Int) (b : Int) = holdP L i b := by
  unfold holdsI
  rw [hasI_iff.2 ⟨by omega, by omega⟩, hasI_iff.2 ⟨by omega, by omega⟩]
  simp
set_option maxHeartbeats 4000000 in
set_option maxRecDepth 100000 in
theorem vabove_to {L : List Nd} (hn : Nested L) {a : Int} (ha : -9223372036854775808 ≤ a ∧ a ≤ 9223372036854775807) {zs : List Int} (hv : aboveI L a = zs) {A : Option Addr} {n c : Nat} {w : World} (h : Sees w A n L) (hn2 : n ≤ 100000) :
    Calls Tryz.prog 125 #[.slice A n c, .int .i64 a] w (IntsOut w zs) := by
  obtain ⟨i0, hi0, hz0, hz1, hz2⟩ := info_parts int_info8
  have HA := Lib.hid h
  have hl := h.len
  rcases hq : hasI L a with _ | _
  · have HQ := Lib.hid hq
    have HV := Lib.hid (show [] = zs by rw [← hv]; unfold aboveI; rw [hq]; rfl)
    obtain ⟨u, hu⟩ : ∃ u, wrap64 (a - 1) = u := ⟨_, rfl⟩
    clear h hv hq hl hi0 hz0 hz1 hz2 ha
    by_cases hu0 : 0 ≤ u
    · go_enter Tryz.func125, Tryz.ntmps125
      go_wp2_with fail
      refine wp_loop_rounds 1 ?_
      rw [rounds_succ]
      go_wp2_with fail
      refine (vhas_to HQ.out HA.out).mono ?_
      rintro e w1 ⟨rfl, rfl⟩
      go_wp2_with fail
      go_ret
      rw [← HV.out]
      exact ⟨none, 0, 0, rfl, owns_nil _ _ _ _, Below.refl _ _⟩
    · have hu1 : u < 0 := by omega
      go_enter Tryz.func125, Tryz.ntmps125
      go_wp2_with fail
      refine wp_loop_rounds 1 ?_
      rw [rounds_succ]
      go_wp2_with fail
      go_ret
      rw [← HV.out]
      exact ⟨none, 0, 0, rfl, owns_nil _ _ _ _, Below.refl _ _⟩
  have HQ := Lib.hid hq
  obtain ⟨a0, a1⟩ := hasI_iff.1 hq
  obtain ⟨b, rfl⟩ : ∃ b : Nat, a = (b : Int) := ⟨a.toNat, by omega⟩
  have hbn : b < n := by omega
  have HV := Lib.hid (show natsI (backTo L b b) = zs by rw [← hv, aboveI_nat (by omega)]; unfold aboveP; rw [if_pos (by omega)]; rfl)
  have HL := Lib.hid hl
  clear h hv hq hl ha a0 a1
  obtain ⟨D, hD⟩ : ∃ D, w.heap.size = D := ⟨_, rfl⟩
  have HD := Lib.hid hD
  clear hD
  go_enter Tryz.func125, Tryz.ntmps125
  go_wp2_with fail
  go_loopw [5, 6] (fun o i wr => ∃ (k m c1 : Nat) (A1 : Option Addr), k ≤ b ∧ i = .int .i64 ((k : Int) - 1) ∧ o = .slice A1 m c1 ∧ wr.ownsRow D 3 1 (.slice A1 m c1) m ((natsI (upFrom L b k)).map (Value.int .i64)) ∧ m ≤ b ∧ On w wr) (fun _ i _ => (intOf i + 1).toNat)
  case atStart => exact ⟨b, 0, 0, none, Nat.le_refl _, rfl, rfl, by rw [upFrom_none]; exact owns_nil _ _ _ _, Nat.zero_le _, On.refl w⟩
  case round =>
    obtain ⟨k, m, c1, A1, hkb, rfl, rfl, hown, hmb, hon⟩ := hrel
    have HO := Lib.hid hon
    have HOw := Lib.hid hown
    clear hon hown
    cases k with
    | zero =>
      have hk0 : ((0 : Nat) : Int) - 1 < 0 := by omega
      have HVV := Lib.hid (show (natsI (upFrom L b 0)) = zs by rw [upFrom_all]; exact HV.out)
      go_wp2_with fail
      go_ret
      exact ⟨A1, m, c1, rfl, by rw [HD.out, ← HVV.out]; exact HOw.out, HO.out⟩
    | succ k =>
      have hkk : ((k + 1 : Nat) : Int) - 1 = (k : Int) := by omega
      rw [hkk]
      have hk0 : (0 : Int) ≤ (k : Int) := by omega
      have HLEN := Lib.hid (upFrom_step (L := L) (b := b) (k := k) (by omega))
      obtain ⟨hh, hhh⟩ : ∃ q, holdP L k b = q := ⟨_, rfl⟩
      have HH := Lib.hid (show holdsI L (k : Int) (b : Int) = hh by rw [holdsI_nat (by have := HL.out; omega) (by have := HL.out; omega)]; exact hhh)
      have HS := Lib.hid (HA.out.on HO.out)
      have HPH := Lib.hid hhh
      clear hhh hkk
      go_wp2_with fail
      refine (vhas_to HQ.out HS.out).mono ?_
      rintro e w1 ⟨rfl, rfl⟩
      go_wp2_with fail
      refine (vholds_to hn HH.out HS.out hn2).mono ?_
      rintro e w1 ⟨rfl, rfl⟩
      cases hh with
      | false =>
        have HE := Lib.hid (show upFrom L b k = upFrom L b (k + 1) by rw [HLEN.out, HPH.out]; simp)
        go_wp2_with fail
        go_roundw
        case rel => exact ⟨k, m, c1, A1, by omega, rfl, rfl, by rw [HE.out]; exact HOw.out, hmb, HO.out⟩
        case measure => simp [intOf] <;> omega
      | true =>
        have HE := Lib.hid (show (natsI (upFrom L b k)).map (Value.int .i64) = (natsI (upFrom L b (k + 1))).map (Value.int .i64) ++ [.int .i64 (k : Int)] by rw [HLEN.out, HPH.out]; unfold natsI; simp)
        have hm1 : m + 1 ≤ b := by
          have h1 := upFrom_len L b k
          have h2 := congrArg List.length HE.out
          have h3 := HOw.out.1
          simp only [List.length_append, List.length_map, List.length_cons, List.length_nil, natsI] at h2 h3
          omega
        have hws := HO.out.size
        go_wp2_with ((with_reducible refine stop_dst 25 ?_ ?_); exact rfl)
        refine Stop.intro ?_
        have hOA := owns_below HOw.out ((Below.refl wr.heap.size wr).alloc (Nat.le_refl _) (.cells #[.int .i64 (k : Int)] 3))
        refine wpList_append_cells _ rfl (.tmp 22) (.tmp 24) _ rfl D 3 i0 (.int .i64 0) 1 8 Tryz.underlying33 hi0 hz0 hz1 hz2 rfl (by decide) (.slice A1 m c1) m _ rfl hOA _ 1 1 _ rfl (cells_ofone wr 3 (.int .i64 (k : Int))) (by intro u hu; simp at hu; subst hu; rfl) (by unfold maxLen; omega) (by omega) (by have := HD.out; simp; omega) ?_
        intro A2 c2 w2 hown2 hg2
        have hb2 : On w w2 := (HO.out.alloc _).grown hg2 (by simp; omega) (fun r e => by have := owns_block hOA r e; have := HD.out; omega)
        have HO2 := Lib.hid hb2
        have HOw2 := Lib.hid (show w2.ownsRow D 3 1 (.slice A2 (m + 1) c2) (m + 1) ((natsI (upFrom L b k)).map (Value.int .i64)) by rw [HE.out]; exact hown2)
        clear hOA hown2 hg2 hb2
        go_wp2_with fail
        go_roundw
        case rel => exact ⟨k, m + 1, c2, A2, by omega, rfl, rfl, HOw2.out, hm1, HO2.out⟩
        case measure => simp [intOf] <;> omega
end Go.Proofs.YtipmdhfinlkceaaGreat
namespace Go.Proofs.YtipmdhfinlkceaaGreat
open Go.RowKit Go.Shelf
attribute [local go_sem] Oper.semAt_some
theorem wide_deep (k : Nat) : Fence.wide.depth.isSome = true → 1 ≤ k := fun h => by cases h
theorem grown_of_below {w w' : World} (h : Below w.heap.size w w') (row : Option Nat) : w.grownBy w' row := ⟨h.os, h.tape, h.output, h.size, fun k hk _ => h.block k hk⟩
set_option maxRecDepth 100000 in
set_option maxHeartbeats 2000000 in
theorem appendSeq_in (n : Nat) (hn : 2 ≤ n) (g : Nat) (lb : Array Value) (eg : ∀ args w, (callFunc g args).run Tryz.prog w = .ok (.enter g args) w)
    (S Sp : List Int → Prop) (N n₀ : Nat) (hN : N ≤ 1000000) (w w0 : World) (hn₀ : n₀ ≤ w.heap.size) (hb0 : Below w0.heap.size w0 w) (hseq : SeqStopsK Fence.wide (n - 1) Tryz.prog g lb (fun x : Int => #[Value.int .i64 x]) (Below n₀) S Sp N w0) :
    CallsIn Fence.wide n Tryz.prog 45 #[.slice none 0 0, .func (.func g) #[] lb] w fun e w' => ∃ xs v, e = .returned v ∧ S xs ∧ w'.ownsRow w.heap.size 3 1 v xs.length (xs.map (Value.int .i64)) ∧ Below w.heap.size w w' := by
  have h1 : 1 ≤ n := by omega
  obtain ⟨i0, hi, hz0, hz1, hz2⟩ := info_parts int_info8
  refine callsIn_of_wp_marks Tryz.func45 rfl trivial ?_ rfl
  simp only [Tryz.ntmps45, List.size_toArray, List.length_cons, List.length_nil, Nat.reduceAdd, Nat.reduceSub, Array.replicate_succ, Array.replicate_zero, List.push_toArray, List.append_toArray, List.nil_append, List.cons_append]
  gi_wp2
  have bO := Boxed.new w 33 (.slice none 0 0)
  have hB0 : Below w.heap.size w (w.alloc (.cells #[.slice none 0 0] 33)) := (Below.refl _ w).alloc (Nat.le_refl _) _
  refine wpIn_rangeFunc_ownG (F := Fence.wide) rfl h1 (gf := g) (lb := lb) rfl trivial eg hseq belowK_t (belowK_b (by simp; omega)) (hb0.trans (hB0.mono hb0.size)) (fun _ => rfl)
    (fun pre W => (∃ v, Boxed W w.heap.size 33 v ∧ W.ownsRow w.heap.size 3 1 v pre.length (pre.map (Value.int .i64)) ∧ True) ∧ Below w.heap.size w W)
    (fun _ _ _ => False)
    (OwnFrom.and (Own.from (holdsRow_own w.heap.size w.heap.size 33 3 1 (fun pre : List Int => pre.length) (fun pre => pre.map (Value.int .i64)) (fun pre v => True)) _) (ownFrom_below (Nat.le_refl _) (by simp)))
    (fun _ _ _ _ _ hs _ _ => hs)
    ⟨⟨_, bO, World.ownsRow_nil _ _ _ _, trivial⟩, hB0⟩
    (fun x => { tmps := #[.slice none 0 0, .func (.func g) #[] lb, .pointer (some ⟨w.heap.size, 0, none⟩), undef, .slice none 0 0, .int .i64 x, .func (.func g) #[] lb, .int .i64 x, undef, undef, undef, undef, undef], defers := [] }) ?assign ?body ?done ?stop
  case assign =>
    intro l x W K hK
    gi_wp2
    exact hK
  case body =>
    rintro l pre x W ⟨⟨v, hv, hrow, _⟩, hB⟩ hlt
    have hc := hv.cell
    gi_wp2_with (gi_at_builtin; refine wpListIn_append_own _ rfl _ _ 33 rfl w.heap.size 3 i0 (.int .i64 0) 1 8 Tryz.underlying33 hi hz0 hz1 hz2 rfl (by decide) _ _ _ rfl (hrow.alloc _) ⟨W.heap.size, 0, none⟩ 1 1 [.int .i64 x] rfl rfl (cell_one_new _ _ _) (by simp [Value.oneCell']) (by simp [maxLen]; omega) (by omega) (by have := hB.size; simp; omega) ?_; intro v' w1 hown' hgrow _; obtain ⟨g', cap', rfl⟩ := ownsRow_succ hown'; obtain ⟨hv1, hv2, hr2, hk2, hb2⟩ := hv.appended (by decide) hrow hB.size (Nat.le_refl _) hown' hgrow; have hc1 := hv1.cell; have hf1 := hv1.frozen)
    exact ⟨hk2.from _, hb2.mono hn₀, ⟨_, hv2, by simpa using hr2, trivial⟩, hB.trans hb2⟩
  case done =>
    rintro D ys W hD hS ⟨⟨v, hv, hrow, _⟩, hB⟩ hK
    have hc := hv.cell
    gi_wp2
    refine ⟨by simp, .inl ⟨_, _, rfl, run_takeDeferred hK, ?_⟩⟩
    exact ⟨_, results_tmp rfl _ _ _, ys, v, rfl, hS, ownsRow_putObj hrow _ hK rfl, hB.trans (belowK_b (w := w) (Nat.le_refl _) W D _ _ (by simp at hD; omega) hK rfl rfl)⟩
  case stop =>
    rintro D c pre W _ _ h _
    exact h.elim
set_option maxRecDepth 100000 in
set_option maxHeartbeats 2000000 in
theorem collect_to (g : Nat) (lb : Array Value) (eg : ∀ args w, (callFunc g args).run Tryz.prog w = .ok (.enter g args) w)
    (S Sp : List Int → Prop) (N n₀ : Nat) (hN : N ≤ 1000000) (w w0 : World) (hn₀ : n₀ ≤ w.heap.size) (hb0 : Below w0.heap.size w0 w) (hseq : ∀ m, SeqStopsK Fence.wide m Tryz.prog g lb (fun x : Int => #[Value.int .i64 x]) (Below n₀) S Sp N w0) :
    Calls Tryz.prog 22 #[.func (.func g) #[] lb] w fun e w' => ∃ xs v, e = .returned v ∧ S xs ∧ w'.ownsRow w.heap.size 3 1 v xs.length (xs.map (Value.int .i64)) ∧ Below w.heap.size w w' := by
  have hap := callsIn_wide.1 (appendSeq_in 2 (Nat.le_refl _) g lb eg S Sp N n₀ hN w w0 hn₀ hb0 (hseq _))
  go_enter Tryz.func22, Tryz.ntmps22
  go_wp2_with fail
  refine hap.mono ?_
  rintro e w1 ⟨xs, v, rfl, h1, h2, h3⟩
  go_wp2_with fail
  go_ret
  exact ⟨xs, v, rfl, h1, h2, h3⟩
end Go.Proofs.YtipmdhfinlkceaaGreat
namespace Go.Proofs.YtipmdhfinlkceaaGreat
open Go.RowKit
def sumV (s : Sm) : Value := .agg #[.int .i64 s.depth, .int .i64 s.pieces, .int .i64 s.nodes, .int .i64 s.heights]
def timesI (line many : Int) : Int := if 1099511627777 / many < line then 1099511627777 else line * many
theorem timesI_cut {line many : Int} (h1 : 1 ≤ line) (h2 : 1 ≤ many) : timesI line many = cut (line * many) := by
  unfold timesI cut cutN
  have hm : 0 ≤ line * many := Int.mul_nonneg (by omega) (by omega)
  by_cases h : 1099511627777 / many < line
  · rw [if_pos h]
    have := (Int.ediv_lt_iff_lt_mul (by omega : 0 < many)).1 h
    omega
  · rw [if_neg h]
    have := (Int.le_ediv_iff_mul_le (by omega : 0 < many)).1 (by omega : line ≤ 1099511627777 / many)
    omega
theorem ptimes_any (line many : Int) (w : World) (h1 : 1 ≤ line) (h2 : 1 ≤ many) (h3 : many ≤ 9223372036854775807) : Calls Tryz.prog 132 #[.int .i64 line, .int .i64 many] w fun e w' => e = .returned (.int .i64 (timesI line many)) ∧ w = w' := by
  have q0 := Int.ediv_nonneg (show (0 : Int) ≤ 1099511627777 by decide) (show 0 ≤ many by omega)
  have q1 := Int.ediv_le_self many (show (0 : Int) ≤ 1099511627777 by decide)
  have hz : (many == 0) = false := by simp; omega
  have hz2 : ¬ many = 0 := by omega
  by_cases h : 1099511627777 / many < line
  · have HV := Lib.hid (show timesI line many = 1099511627777 by unfold timesI; rw [if_pos h])
    go_enter Tryz.func132, Tryz.ntmps132
    go_wp2_with fail
    go_ret
    exact ⟨ret_int (by rw [HV.out]), rfl⟩
  · have HV := Lib.hid (show timesI line many = line * many by unfold timesI; rw [if_neg h])
    have hle := (Int.le_ediv_iff_mul_le (by omega : 0 < many)).1 (by omega : line ≤ 1099511627777 / many)
    have hm : 0 ≤ line * many := Int.mul_nonneg (by omega) (by omega)
    have hwr : IntKind.i64.wrap (line * many) = line * many := by rw [IntKind.wrap_i64]; omega
    have h' : line ≤ 1099511627777 / many := by omega
    clear h hle hm
    go_enter Tryz.func132, Tryz.ntmps132
    go_wp2_with fail
    go_ret
    exact ⟨ret_int (by rw [HV.out]), rfl⟩
theorem ptimes_to {line many v : Int} (hv : timesI line many = v) (w : World) (h1 : 1 ≤ line) (h2 : 1 ≤ many) (h3 : many ≤ 9223372036854775807) : Calls Tryz.prog 132 #[.int .i64 line, .int .i64 many] w fun e w' => e = .returned (.int .i64 v) ∧ w = w' := by
  subst hv; exact ptimes_any line many w h1 h2 h3
def plusS (s x : Sm) : Sm := ⟨max s.depth x.depth, wr (s.pieces + x.pieces), s.nodes + x.nodes, min (s.heights + x.heights) cutN⟩
set_option maxHeartbeats 4000000 in
set_option maxRecDepth 100000 in
theorem ptogether_any (s x : Sm) (b c : Nat) (w : World) (hB : Box w b [.int .i64 s.depth, .int .i64 s.pieces, .int .i64 s.nodes, .int .i64 s.heights, .int .i64 x.depth, .int .i64 x.pieces, .int .i64 x.nodes, .int .i64 x.heights])
    (h1 : 0 ≤ s.depth) (h2 : wr s.pieces = s.pieces) (h3 : 0 ≤ s.nodes ∧ s.nodes ≤ 1152921504606846976) (h4 : 0 ≤ s.heights ∧ s.heights ≤ 1099511627777) (k1 : 0 ≤ x.depth) (k3 : 0 ≤ x.nodes ∧ x.nodes ≤ 1152921504606846976) (k4 : 0 ≤ x.heights ∧ x.heights ≤ 1152921504606846976) :
    Calls Tryz.prog 105 #[.slice (some ⟨b, 0, none⟩) 2 c] w fun e w' => e = .returned (sumV (plusS s x)) ∧ Below w.heap.size w w' := by
  obtain ⟨d0, p0, n0, g0⟩ := s
  obtain ⟨d1, p1, n1, g1⟩ := x
  simp only at *
  obtain ⟨p, hp⟩ : ∃ p, IntKind.i64.wrap (p0 + p1) = p := ⟨_, rfl⟩
  have hp2 : wr (p0 + p1) = p := hp
  have hp0 : IntKind.i64.wrap p0 = p0 := h2
  obtain ⟨n, hn⟩ : ∃ n, n0 + n1 = n := ⟨_, rfl⟩
  obtain ⟨d, hd⟩ : ∃ d, max d0 d1 = d := ⟨_, rfl⟩
  obtain ⟨g, hg⟩ : ∃ g, min (g0 + g1) 1099511627777 = g := ⟨_, rfl⟩
  have HV := Lib.hid (show plusS ⟨d0, p0, n0, g0⟩ ⟨d1, p1, n1, g1⟩ = ⟨d, p, n, g⟩ by unfold plusS cutN; simp only [hp2, hn, hd, hg])
  clear hp2 h2
  have m0 : max 0 d0 = d0 := by omega
  have m1 : min g0 1099511627777 = g0 := by omega
  have HB := Lib.hid hB
  have hlt := hB.1
  clear hB
  go_enter Tryz.func105, Tryz.ntmps105
  go_wp2_with fail
  go_loopw [8] (fun i wr => ∃ k : Nat, i = .int .i64 k ∧ Below w.heap.size w wr ∧ Box wr w.heap.size [.int .i64 0, .int .i64 0, .int .i64 0, .int .i64 0] ∧ ((k = 0 ∧ Box wr (w.heap.size + 1) [.int .i64 0, .int .i64 0, .int .i64 0, .int .i64 0]) ∨ (k = 1 ∧ Box wr (w.heap.size + 1) [.int .i64 d0, .int .i64 p0, .int .i64 n0, .int .i64 g0]) ∨ (k = 2 ∧ Box wr (w.heap.size + 1) [.int .i64 d, .int .i64 p, .int .i64 n, .int .i64 g]))) (fun i _ => 2 - (intOf i).toNat)
  case atStart => exact ⟨0, rfl, by go_grown, (box_new w _ _ _ rfl _ rfl).alloc _, .inl ⟨rfl, box_new _ _ _ _ (by simp) _ rfl⟩⟩
  case round =>
    obtain ⟨k, rfl, hon, hX, hk⟩ := hrel
    have hD := hon.size
    have hbb := HB.out.belowB hon hlt
    have HX := Lib.hid hX
    have HO := Lib.hid hon
    rcases hk with ⟨rfl, hS⟩ | ⟨rfl, hS⟩ | ⟨rfl, hS⟩
    · have HS := Lib.hid hS
      have c0 := hbb.2.2 0 _ rfl
      have c1 := hbb.2.2 1 _ rfl
      have c2 := hbb.2.2 2 _ rfl
      have c3 := hbb.2.2 3 _ rfl
      have s0 := hS.2.2 0 _ rfl
      have s1 := hS.2.2 1 _ rfl
      have s2 := hS.2.2 2 _ rfl
      have s3 := hS.2.2 3 _ rfl
      have f0 := hS.2.1 0
      have f1 := hS.2.1 1
      have f2 := hS.2.1 2
      have f3 := hS.2.1 3
      have hl := hS.1
      have hne : ¬ w.heap.size + 1 = wr.heap.size := by omega
      clear hX hon hbb hS
      go_wp2_with fail
      go_roundw
      case rel =>
        refine ⟨1, by go_num, (((((HO.out.setCell (by simp) _).setCell (by simp) _).setCell (by simp) _).setCell (by simp) _).alloc (by simp; omega) _), ((((HX.out.set_other (by omega) _ _).set_other (by omega) _ _).set_other (by omega) _ _).set_other (by omega) _ _).alloc _, .inr (.inl ⟨rfl, ?_⟩)⟩
        exact ((((HS.out.set 0 _ (by simp)).set 1 _ (by simp)).set 2 _ (by simp)).set 3 _ (by simp)).alloc _
      case measure => simp [intOf]
    · have HS := Lib.hid hS
      have c0 := hbb.2.2 4 _ rfl
      have c1 := hbb.2.2 5 _ rfl
      have c2 := hbb.2.2 6 _ rfl
      have c3 := hbb.2.2 7 _ rfl
      have s0 := hS.2.2 0 _ rfl
      have s1 := hS.2.2 1 _ rfl
      have s2 := hS.2.2 2 _ rfl
      have s3 := hS.2.2 3 _ rfl
      have f0 := hS.2.1 0
      have f1 := hS.2.1 1
      have f2 := hS.2.1 2
      have f3 := hS.2.1 3
      have hl := hS.1
      have hne : ¬ w.heap.size + 1 = wr.heap.size := by omega
      clear hX hon hbb hS
      go_wp2_with fail
      go_roundw
      case rel =>
        refine ⟨2, by go_num, (((((HO.out.setCell (by simp) _).setCell (by simp) _).setCell (by simp) _).setCell (by simp) _).alloc (by simp; omega) _), ((((HX.out.set_other (by omega) _ _).set_other (by omega) _ _).set_other (by omega) _ _).set_other (by omega) _ _).alloc _, .inr (.inr ⟨rfl, ?_⟩)⟩
        exact ((((HS.out.set 0 _ (by simp)).set 1 _ (by simp)).set 2 _ (by simp)).set 3 _ (by simp)).alloc _
      case measure => simp [intOf]
    · have HS := Lib.hid hS
      have s0 := hS.2.2 0 _ rfl
      have s1 := hS.2.2 1 _ rfl
      have s2 := hS.2.2 2 _ rfl
      have s3 := hS.2.2 3 _ rfl
      have x0 := hX.2.2 0 _ rfl
      have x1 := hX.2.2 1 _ rfl
      have x2 := hX.2.2 2 _ rfl
      have x3 := hX.2.2 3 _ rfl
      have f0 := hX.2.1 0
      have f1 := hX.2.1 1
      have f2 := hX.2.1 2
      have f3 := hX.2.1 3
      have hl := hX.1
      clear hX hon hbb hS
      go_wp2_with fail
      have hY := (((HX.out.set 0 (.int .i64 d) (by simp)).set 1 (.int .i64 p) (by simp)).set 2 (.int .i64 n) (by simp)).set 3 (.int .i64 g) (by simp)
      have r0 := hY.2.2 0 _ rfl
      have r1 := hY.2.2 1 _ rfl
      have r2 := hY.2.2 2 _ rfl
      have r3 := hY.2.2 3 _ rfl
      refine bodyPost_ret (v := .agg #[.int .i64 d, .int .i64 p, .int .i64 n, .int .i64 g]) (by simp [results, Tryz.results105, go_sem, r0, r1, r2, r3]) rfl ⟨by rw [HV.out]; rfl, ?_⟩
      exact (((HO.out.setCell (by simp) _).setCell (by simp) _).setCell (by simp) _).setCell (by simp) _
theorem ptogether_to {s x y : Sm} (hy : plusS s x = y) {b c : Nat} (w : World) (hB : Box w b [.int .i64 s.depth, .int .i64 s.pieces, .int .i64 s.nodes, .int .i64 s.heights, .int .i64 x.depth, .int .i64 x.pieces, .int .i64 x.nodes, .int .i64 x.heights])
    (h1 : 0 ≤ s.depth) (h2 : wr s.pieces = s.pieces) (h3 : 0 ≤ s.nodes ∧ s.nodes ≤ 1152921504606846976) (h4 : 0 ≤ s.heights ∧ s.heights ≤ 1099511627777) (k1 : 0 ≤ x.depth) (k3 : 0 ≤ x.nodes ∧ x.nodes ≤ 1152921504606846976) (k4 : 0 ≤ x.heights ∧ x.heights ≤ 1152921504606846976) :
    Calls Tryz.prog 105 #[.slice (some ⟨b, 0, none⟩) 2 c] w fun e w' => e = .returned (sumV y) ∧ Below w.heap.size w w' := by
  subst hy; exact ptogether_any s x b c w hB h1 h2 h3 h4 k1 k3 k4
abbrev Run3 := Int × Int × Int
def takeN (zs : List Int) (sp wd : Int) (a : Nat) : Run3 := ((a : Int), (endP zs sp wd a : Int), wideN zs sp a (endP zs sp wd a))
def takeI (zs : List Int) (sp wd a : Int) : Run3 := if 0 ≤ a ∧ a < (zs.length : Int) then takeN zs sp wd a.toNat else (0, 0, 0)
theorem takeI_bad {zs : List Int} {sp wd a : Int} (h : a < 0 ∨ (zs.length : Int) ≤ a) : takeI zs sp wd a = (0, 0, 0) := by unfold takeI; rw [if_neg (by omega)]
theorem takeI_nat {zs : List Int} {sp wd : Int} {a : Nat} (h : a < zs.length) : takeI zs sp wd (a : Int) = takeN zs sp wd a := by unfold takeI; rw [if_pos ⟨by omega, by omega⟩, Int.toNat_natCast]
theorem box3 (w : World) (a b c : Value) (t : TypeId) : Box (w.alloc (.cells #[a, b, c] t)) w.heap.size [a, b, c] := Box.new w [a, b, c] t
theorem Box.of3w {w : World} {n : Nat} {a b c : Value} (h : Box w n [a, b, c]) : (w.cell? ⟨n, 0, none⟩ = some a ∧ w.cell? ⟨n, 1, none⟩ = some b ∧ w.cell? ⟨n, 2, none⟩ = some c) ∧ (w.frozen? ⟨n, 0, none⟩ = false ∧ w.frozen? ⟨n, 1, none⟩ = false ∧ w.frozen? ⟨n, 2, none⟩ = false) ∧ n < w.heap.size :=
  ⟨⟨h.2.2 0 _ rfl, h.2.2 1 _ rfl, h.2.2 2 _ rfl⟩, ⟨h.2.1 _, h.2.1 _, h.2.1 _⟩, h.1⟩
set_option maxHeartbeats 2000000 in
set_option maxRecDepth 100000 in
theorem rtake_to {zs : List Int} {sp wd a x y z : Int} (hv : takeI zs sp wd a = (x, y, z)) (hn : Near9 zs sp) (ha : I64w a) {A : Option Addr} {n c : Nat} (hn2 : n ≤ 1000) {w : World} (h : Ints w A n zs) :
    Calls Tryz.prog 126 #[.slice A n c, .int .i64 sp, .int .i64 wd, .int .i64 a] w fun e w' => e = .returned (.agg #[.int .i64 x, .int .i64 y, .int .i64 z]) ∧ Below w.heap.size w w' := by
  have HA := Lib.hid h
  have HN := Lib.hid h.1
  have hl := h.1
  have HNE := Lib.hid hn
  clear h hn
  obtain ⟨ha1, ha2⟩ := ha
  have hX0 : Box (w.alloc (.cells #[.int .i64 0, .int .i64 0, .int .i64 0] 165)) w.heap.size [.int .i64 0, .int .i64 0, .int .i64 0] := box3 w _ _ _ _
  by_cases h12 : a < 0 ∨ (n : Int) ≤ a
  · rw [takeI_bad (by omega)] at hv
    injection hv with e1 hv
    injection hv with e2 e3
    subst e1 e2 e3
    have HX := Lib.hid hX0
    clear hX0 hl
    by_cases h1 : a < 0
    · clear h12
      go_enter Tryz.func126, Tryz.ntmps126
      go_wp2_with fail
      have hY := ((HX.out.set 0 (.int .i64 0) (by simp)).set 1 (.int .i64 0) (by simp)).set 2 (.int .i64 0) (by simp)
      obtain ⟨⟨r0, r1, r2⟩, _, _⟩ := hY.of3w
      exact bodyPost_ret (v := .agg #[.int .i64 0, .int .i64 0, .int .i64 0]) (by simp [results, Tryz.results126, go_sem, r0, r1, r2]) rfl ⟨rfl, by go_grown⟩
    · have h2 : (n : Int) ≤ a := by omega
      clear h12
      go_enter Tryz.func126, Tryz.ntmps126
      go_wp2_with fail
      have hY := ((HX.out.set 0 (.int .i64 0) (by simp)).set 1 (.int .i64 0) (by simp)).set 2 (.int .i64 0) (by simp)
      obtain ⟨⟨r0, r1, r2⟩, _, _⟩ := hY.of3w
      exact bodyPost_ret (v := .agg #[.int .i64 0, .int .i64 0, .int .i64 0]) (by simp [results, Tryz.results126, go_sem, r0, r1, r2]) rfl ⟨rfl, by go_grown⟩
  obtain ⟨i, rfl⟩ : ∃ i : Nat, a = (i : Int) := ⟨a.toNat, by omega⟩
  have hin : i < n := by omega
  rw [takeI_nat (by omega)] at hv
  unfold takeN at hv
  injection hv with e1 hv
  injection hv with e2 e3
  have E1 := Lib.hid e1
  have E2 := Lib.hid e2
  have E3 := Lib.hid e3
  have hin2 : (i : Int) < (n : Int) := by omega
  have hd0 : decide ((i : Int) < 0) = false := decide_eq_false (by omega)
  have hd1 : decide (n ≤ i) = false := decide_eq_false (by omega)
  obtain ⟨V, hV⟩ : ∃ V, w.alloc (.cells #[.int .i64 0, .int .i64 0, .int .i64 0] 165) = V := ⟨_, rfl⟩
  have HB := Lib.hid (show Below w.heap.size w V by rw [← hV]; go_grown)
  have HX := Lib.hid (show Box V w.heap.size [.int .i64 0, .int .i64 0, .int .i64 0] by rw [← hV]; exact hX0)
  have HVV := Lib.hid hV
  have HAV := Lib.hid (HA.out.below HB.out rfl)
  have HL0 := Lib.hid (show LineTo zs sp wd i (i + 1) from ⟨by omega, by omega, .inl rfl⟩)
  clear e1 e2 e3 hV hX0 hl h12
  go_enter Tryz.func126, Tryz.ntmps126
  go_wp2_with fail
  rw [HVV.out]
  go_loopw [9] (fun t' wr => ∃ t : Nat, t' = .int .i64 (t : Int) ∧ t ≤ n ∧ Hid (LineTo zs sp wd i t) ∧ wr = V) (fun t' _ => n - (intOf t').toNat)
  case atStart => exact ⟨i + 1, by go_num, by omega, HL0, by first | rfl | trivial⟩
  case round =>
    obtain ⟨t, rfl, htn, HL, rfl⟩ := hrel
    by_cases hlt : t < n
    · have hlt2 : (t : Int) < (n : Int) := by omega
      obtain ⟨u, hu⟩ : ∃ u, wideN zs sp i (t + 1) = u := ⟨_, rfl⟩
      have HU := Lib.hid (show wideI zs sp (i : Int) ((t : Int) + 1) = u by rw [show (t : Int) + 1 = ((t + 1 : Nat) : Int) by omega, wideI_nat, hu])
      have HU2 := Lib.hid hu
      clear hu
      by_cases huw : u ≤ wd
      · have HL2 := Lib.hid (show LineTo zs sp wd i (t + 1) from ⟨by have := HL.out.1; omega, by have := HN.out; omega, .inr (by rw [HU2.out]; exact huw)⟩)
        go_wp2_with fail
        refine (rwide_to HU.out HNE.out (by unfold I64w; omega) (by unfold I64w; omega) hn2 HAV.out).mono ?_
        rintro e w1 ⟨rfl, rfl⟩
        go_wp2_with fail
        go_roundw
        case rel => exact ⟨t + 1, by go_num, by omega, HL2, by first | rfl | trivial⟩
        case measure => simp [intOf] <;> omega
      · have HF := Lib.hid (show t = endP zs sp wd i from full_one HNE.out HL.out (fun _ => by rw [HU2.out]; omega) (endP_spec (by have := HN.out; omega)).1 (endP_spec (by have := HN.out; omega)).2)
        have huw2 : wd < u := by omega
        have HZ := Lib.hid (show wideI zs sp (i : Int) (t : Int) = z by rw [wideI_nat, HF.out]; exact E3.out)
        obtain ⟨⟨c0, c1, c2⟩, ⟨f0, f1, f2⟩, hb0⟩ := HX.out.of3w
        go_wp2_with fail
        refine (rwide_to HU.out HNE.out (by unfold I64w; omega) (by unfold I64w; omega) hn2 HAV.out).mono ?_
        rintro e w1 ⟨rfl, rfl⟩
        go_wp2_with fail
        refine (rwide_to HZ.out HNE.out (by unfold I64w; omega) (by unfold I64w; omega) hn2 HAV.out).mono ?_
        rintro e w1 ⟨rfl, rfl⟩
        go_wp2_with fail
        have hY := ((HX.out.set 0 (.int .i64 (i : Int)) (by simp)).set 1 (.int .i64 (t : Int)) (by simp)).set 2 (.int .i64 z) (by simp)
        obtain ⟨⟨r0, r1, r2⟩, _, _⟩ := hY.of3w
        exact bodyPost_ret (v := .agg #[.int .i64 x, .int .i64 y, .int .i64 z]) (by rw [← E1.out, ← E2.out, ← HF.out]; simp [results, Tryz.results126, go_sem, r0, r1, r2]) rfl ⟨rfl, ((HB.out.setCell (Nat.le_refl _) _).setCell (Nat.le_refl _) _).setCell (Nat.le_refl _) _⟩
    · have hge : (n : Int) ≤ (t : Int) := by omega
      have HF := Lib.hid (show t = endP zs sp wd i from full_one HNE.out HL.out (fun h => by have := HN.out; omega) (endP_spec (by have := HN.out; omega)).1 (endP_spec (by have := HN.out; omega)).2)
      have HZ := Lib.hid (show wideI zs sp (i : Int) (t : Int) = z by rw [wideI_nat, HF.out]; exact E3.out)
      obtain ⟨⟨c0, c1, c2⟩, ⟨f0, f1, f2⟩, hb0⟩ := HX.out.of3w
      go_wp2_with fail
      refine (rwide_to HZ.out HNE.out (by unfold I64w; omega) (by unfold I64w; omega) hn2 HAV.out).mono ?_
      rintro e w1 ⟨rfl, rfl⟩
      go_wp2_with fail
      have hY := ((HX.out.set 0 (.int .i64 (i : Int)) (by simp)).set 1 (.int .i64 (t : Int)) (by simp)).set 2 (.int .i64 z) (by simp)
      obtain ⟨⟨r0, r1, r2⟩, _, _⟩ := hY.of3w
      exact bodyPost_ret (v := .agg #[.int .i64 x, .int .i64 y, .int .i64 z]) (by rw [← E1.out, ← E2.out, ← HF.out]; simp [results, Tryz.results126, go_sem, r0, r1, r2]) rfl ⟨rfl, ((HB.out.setCell (Nat.le_refl _) _).setCell (Nat.le_refl _) _).setCell (Nat.le_refl _) _⟩
def nextV (v : Bool) (z : Int) (s : Int × Bool) : Int × Bool := if v then (if s.2 = false ∨ z < s.1 then (z, true) else s) else s
set_option maxHeartbeats 2000000 in
theorem next1_no {x y u h s a b nx : Int} (hv : (leaveF x u s a b != (a, b)) = false) (hw : IntKind.i64.wrap (x + u) = x + u) (hw2 : IntKind.i64.wrap (y + h) = y + h) {fl : Bool} {w0 w : World} {ki kf kn : Nat}
    (hI : Box w ki [.int .i64 a, .int .i64 b]) (hF : Box w kf [.bool fl]) (hN : Box w kn [.int .i64 nx]) (hkf : w0.heap.size ≤ kf) (hkn : w0.heap.size ≤ kn) (hne : kn ≠ kf) (hB : Below w0.heap.size w0 w) :
    Calls Tryz.prog 155 #[.agg #[.int .i64 x, .int .i64 y, .int .i64 u, .int .i64 h, .int .i64 s], .pointer (some ⟨ki, 0, none⟩), .pointer (some ⟨kf, 0, none⟩), .pointer (some ⟨kn, 0, none⟩)] w fun e w' => e = .returned (.tuple #[]) ∧ Box w' kn [.int .i64 nx] ∧ Box w' kf [.bool fl] ∧ Spare [kn, kf] w w' ∧ Below w0.heap.size w0 w' := by
  have HC := Lib.hid (fun w => narrows_to (x := x) (y := y) (u := u) (h := h) (s := s) hv hw w)
  have HC2 := Lib.hid (fun w => bottom_to (x := x) (y := y) (u := u) (h := h) (s := s) hw2 w)
  clear hv
  have HI := Lib.hid hI
  have HF := Lib.hid hF
  have HN := Lib.hid hN
  have HB := Lib.hid hB
  clear hI hF hN hB
  go_enter Tryz.func155, Tryz.ntmps155
  go_wp2_with fail
  generalize hW : w.alloc (.cells #[.int .i64 x, .int .i64 y, .int .i64 u, .int .i64 h, .int .i64 s] 132) = W
  have HX := Lib.hid (show Box W w.heap.size [.int .i64 x, .int .i64 y, .int .i64 u, .int .i64 h, .int .i64 s] by rw [← hW]; exact Box.new5 _ _ _ _ _ _ _)
  have hBW : Below w.heap.size w W := by rw [← hW]; go_grown
  have HBW := Lib.hid hBW
  have HIW := Lib.hid (HI.out.below hBW)
  have HFW := Lib.hid (HF.out.below hBW)
  have HNW := Lib.hid (HN.out.below hBW)
  clear hW hBW
  have k0 := OnW.cell (W := W) HX.out.of5.1.1
  have k1 := OnW.cell (W := W) HX.out.of5.1.2.1
  have k2 := OnW.cell (W := W) HX.out.of5.1.2.2.1
  have k3 := OnW.cell (W := W) HX.out.of5.1.2.2.2.1
  have k4 := OnW.cell (W := W) HX.out.of5.1.2.2.2.2
  obtain ⟨j0, j1⟩ := OnW.of2 HIW.out
  have jf := OnW.of1 HFW.out
  have jn := OnW.of1 HNW.out
  refine wp_region_on (by kernel_rfl) (by kernel_rfl) ?_
  repeat (go_big_quiet_step ((first
    | (go_at_call 156; with_reducible exact Calls.on_of (HC.out _))
    | (go_at_call 84; with_reducible exact Calls.on_of (HC2.out _)))))
  refine wpQuiet_nil ?_
  intro w5 hw'
  obtain ⟨⟨w6, hOn⟩, hw''⟩ := hw'
  obtain rfl : w5 = w6 := hw''
  have HB5 := Lib.hid (below_then HBW.out hOn)
  clear k0 k1 k2 k3 k4 j0 j1 jf jn
  go_wp2_with fail
  go_end0
  exact ⟨rfl, HN.out.below HB5.out, HF.out.below HB5.out, Spare.below (Spare.refl _ _) HB5.out, HB.out.trans (HB5.out.mono HB.out.size)⟩
set_option maxHeartbeats 2000000 in
theorem next1_first {x y u h s a b nx : Int} (hv : (leaveF x u s a b != (a, b)) = true) (hw : IntKind.i64.wrap (x + u) = x + u) (hw2 : IntKind.i64.wrap (y + h) = y + h) {w0 w : World} {ki kf kn : Nat}
    (hI : Box w ki [.int .i64 a, .int .i64 b]) (hF : Box w kf [.bool false]) (hN : Box w kn [.int .i64 nx]) (hkf : w0.heap.size ≤ kf) (hkn : w0.heap.size ≤ kn) (hne : kn ≠ kf) (hB : Below w0.heap.size w0 w) :
    Calls Tryz.prog 155 #[.agg #[.int .i64 x, .int .i64 y, .int .i64 u, .int .i64 h, .int .i64 s], .pointer (some ⟨ki, 0, none⟩), .pointer (some ⟨kf, 0, none⟩), .pointer (some ⟨kn, 0, none⟩)] w fun e w' => e = .returned (.tuple #[]) ∧ Box w' kn [.int .i64 (y + h)] ∧ Box w' kf [.bool true] ∧ Spare [kn, kf] w w' ∧ Below w0.heap.size w0 w' := by
  have HC := Lib.hid (fun w => narrows_to (x := x) (y := y) (u := u) (h := h) (s := s) hv hw w)
  have HC2 := Lib.hid (fun w => bottom_to (x := x) (y := y) (u := u) (h := h) (s := s) hw2 w)
  clear hv
  have HI := Lib.hid hI
  have HF := Lib.hid hF
  have HN := Lib.hid hN
  have HB := Lib.hid hB
  clear hI hF hN hB
  go_enter Tryz.func155, Tryz.ntmps155
  go_wp2_with fail
  generalize hW : w.alloc (.cells #[.int .i64 x, .int .i64 y, .int .i64 u, .int .i64 h, .int .i64 s] 132) = W
  have HX := Lib.hid (show Box W w.heap.size [.int .i64 x, .int .i64 y, .int .i64 u, .int .i64 h, .int .i64 s] by rw [← hW]; exact Box.new5 _ _ _ _ _ _ _)
  have hBW : Below w.heap.size w W := by rw [← hW]; go_grown
  have HBW := Lib.hid hBW
  have HIW := Lib.hid (HI.out.below hBW)
  have HFW := Lib.hid (HF.out.below hBW)
  have HNW := Lib.hid (HN.out.below hBW)
  clear hW hBW
  have k0 := OnW.cell (W := W) HX.out.of5.1.1
  have k1 := OnW.cell (W := W) HX.out.of5.1.2.1
  have k2 := OnW.cell (W := W) HX.out.of5.1.2.2.1
  have k3 := OnW.cell (W := W) HX.out.of5.1.2.2.2.1
  have k4 := OnW.cell (W := W) HX.out.of5.1.2.2.2.2
  obtain ⟨j0, j1⟩ := OnW.of2 HIW.out
  have jf := OnW.of1 HFW.out
  have jn := OnW.of1 HNW.out
  refine wp_region_on (by kernel_rfl) (by kernel_rfl) ?_
  repeat (go_big_quiet_step ((first
    | (go_at_call 156; with_reducible exact Calls.on_of (HC.out _))
    | (go_at_call 84; with_reducible exact Calls.on_of (HC2.out _)))))
  refine wpQuiet_nil ?_
  intro w5 hw'
  obtain ⟨⟨w6, hOn⟩, hw''⟩ := hw'
  obtain rfl : w5 = w6 := hw''
  have HB5 := Lib.hid (below_then HBW.out hOn)
  clear k0 k1 k2 k3 k4 j0 j1 jf jn
  obtain ⟨⟨x0, x1, x2, x3, x4⟩, hxs⟩ := (HX.out.below hOn).of5
  clear hOn
  go_wp2_with fail
  refine (HC2.out _).mono ?_
  rintro e w7 ⟨rfl, hb7⟩
  have HB7 := Lib.hid (below_then HB5.out hb7)
  obtain ⟨f0, f1, f2⟩ := (HF.out.below HB7.out).of1
  obtain ⟨n0, n1, n2⟩ := (HN.out.below HB7.out).of1
  clear hb7 x0 x1 x2 x3 x4
  go_wp2_with fail
  go_end0
  refine ⟨rfl, ((HN.out.below HB7.out).set 0 (.int .i64 (y + h)) (by simp)).set_other (fun e => hne e.symm) 0 _, ((HF.out.below HB7.out).set_other hne 0 _).set 0 (.bool true) (by simp), ?_, ?_⟩
  · exact Spare.set (Spare.set (Spare.below (Spare.refl _ _) HB7.out) (by simp)) (by simp)
  · exact ((HB.out.trans (HB7.out.mono HB.out.size)).setCell hkn _).setCell hkf _
set_option maxHeartbeats 2000000 in
theorem next1_less {x y u h s a b nx : Int} (hv : (leaveF x u s a b != (a, b)) = true) (hw : IntKind.i64.wrap (x + u) = x + u) (hw2 : IntKind.i64.wrap (y + h) = y + h) (hl : y + h < nx) {w0 w : World} {ki kf kn : Nat}
    (hI : Box w ki [.int .i64 a, .int .i64 b]) (hF : Box w kf [.bool true]) (hN : Box w kn [.int .i64 nx]) (hkf : w0.heap.size ≤ kf) (hkn : w0.heap.size ≤ kn) (hne : kn ≠ kf) (hB : Below w0.heap.size w0 w) :
    Calls Tryz.prog 155 #[.agg #[.int .i64 x, .int .i64 y, .int .i64 u, .int .i64 h, .int .i64 s], .pointer (some ⟨ki, 0, none⟩), .pointer (some ⟨kf, 0, none⟩), .pointer (some ⟨kn, 0, none⟩)] w fun e w' => e = .returned (.tuple #[]) ∧ Box w' kn [.int .i64 (y + h)] ∧ Box w' kf [.bool true] ∧ Spare [kn, kf] w w' ∧ Below w0.heap.size w0 w' := by
  have HC := Lib.hid (fun w => narrows_to (x := x) (y := y) (u := u) (h := h) (s := s) hv hw w)
  have HC2 := Lib.hid (fun w => bottom_to (x := x) (y := y) (u := u) (h := h) (s := s) hw2 w)
  clear hv
  have HI := Lib.hid hI
  have HF := Lib.hid hF
  have HN := Lib.hid hN
  have HB := Lib.hid hB
  clear hI hF hN hB
  have hld : decide (y + h < nx) = true := decide_eq_true hl
  go_enter Tryz.func155, Tryz.ntmps155
  go_wp2_with fail
  generalize hW : w.alloc (.cells #[.int .i64 x, .int .i64 y, .int .i64 u, .int .i64 h, .int .i64 s] 132) = W
  have HX := Lib.hid (show Box W w.heap.size [.int .i64 x, .int .i64 y, .int .i64 u, .int .i64 h, .int .i64 s] by rw [← hW]; exact Box.new5 _ _ _ _ _ _ _)
  have hBW : Below w.heap.size w W := by rw [← hW]; go_grown
  have HBW := Lib.hid hBW
  have HIW := Lib.hid (HI.out.below hBW)
  have HFW := Lib.hid (HF.out.below hBW)
  have HNW := Lib.hid (HN.out.below hBW)
  clear hW hBW
  have k0 := OnW.cell (W := W) HX.out.of5.1.1
  have k1 := OnW.cell (W := W) HX.out.of5.1.2.1
  have k2 := OnW.cell (W := W) HX.out.of5.1.2.2.1
  have k3 := OnW.cell (W := W) HX.out.of5.1.2.2.2.1
  have k4 := OnW.cell (W := W) HX.out.of5.1.2.2.2.2
  obtain ⟨j0, j1⟩ := OnW.of2 HIW.out
  have jf := OnW.of1 HFW.out
  have jn := OnW.of1 HNW.out
  refine wp_region_on (by kernel_rfl) (by kernel_rfl) ?_
  repeat (go_big_quiet_step ((first
    | (go_at_call 156; with_reducible exact Calls.on_of (HC.out _))
    | (go_at_call 84; with_reducible exact Calls.on_of (HC2.out _)))))
  refine wpQuiet_nil ?_
  intro w5 hw'
  obtain ⟨⟨w6, hOn⟩, hw''⟩ := hw'
  obtain rfl : w5 = w6 := hw''
  have HB5 := Lib.hid (below_then HBW.out hOn)
  clear k0 k1 k2 k3 k4 j0 j1 jf jn
  obtain ⟨⟨x0, x1, x2, x3, x4⟩, hxs⟩ := (HX.out.below hOn).of5
  clear hOn
  go_wp2_with fail
  refine (HC2.out _).mono ?_
  rintro e w7 ⟨rfl, hb7⟩
  have HB7 := Lib.hid (below_then HB5.out hb7)
  obtain ⟨f0, f1, f2⟩ := (HF.out.below HB7.out).of1
  obtain ⟨n0, n1, n2⟩ := (HN.out.below HB7.out).of1
  clear hb7 x0 x1 x2 x3 x4
  go_wp2_with fail
  go_end0
  refine ⟨rfl, ((HN.out.below HB7.out).set 0 (.int .i64 (y + h)) (by simp)).set_other (fun e => hne e.symm) 0 _, ((HF.out.below HB7.out).set_other hne 0 _).set 0 (.bool true) (by simp), ?_, ?_⟩
  · exact Spare.set (Spare.set (Spare.below (Spare.refl _ _) HB7.out) (by simp)) (by simp)
  · exact ((HB.out.trans (HB7.out.mono HB.out.size)).setCell hkn _).setCell hkf _
set_option maxHeartbeats 2000000 in
theorem next1_more {x y u h s a b nx : Int} (hv : (leaveF x u s a b != (a, b)) = true) (hw : IntKind.i64.wrap (x + u) = x + u) (hw2 : IntKind.i64.wrap (y + h) = y + h) (hl : ¬ y + h < nx) {w0 w : World} {ki kf kn : Nat}
    (hI : Box w ki [.int .i64 a, .int .i64 b]) (hF : Box w kf [.bool true]) (hN : Box w kn [.int .i64 nx]) (hkf : w0.heap.size ≤ kf) (hkn : w0.heap.size ≤ kn) (hne : kn ≠ kf) (hB : Below w0.heap.size w0 w) :
    Calls Tryz.prog 155 #[.agg #[.int .i64 x, .int .i64 y, .int .i64 u, .int .i64 h, .int .i64 s], .pointer (some ⟨ki, 0, none⟩), .pointer (some ⟨kf, 0, none⟩), .pointer (some ⟨kn, 0, none⟩)] w fun e w' => e = .returned (.tuple #[]) ∧ Box w' kn [.int .i64 nx] ∧ Box w' kf [.bool true] ∧ Spare [kn, kf] w w' ∧ Below w0.heap.size w0 w' := by
  have HC := Lib.hid (fun w => narrows_to (x := x) (y := y) (u := u) (h := h) (s := s) hv hw w)
  have HC2 := Lib.hid (fun w => bottom_to (x := x) (y := y) (u := u) (h := h) (s := s) hw2 w)
  clear hv
  have HI := Lib.hid hI
  have HF := Lib.hid hF
  have HN := Lib.hid hN
  have HB := Lib.hid hB
  clear hI hF hN hB
  have hld : decide (y + h < nx) = false := decide_eq_false hl
  go_enter Tryz.func155, Tryz.ntmps155
  go_wp2_with fail
  generalize hW : w.alloc (.cells #[.int .i64 x, .int .i64 y, .int .i64 u, .int .i64 h, .int .i64 s] 132) = W
  have HX := Lib.hid (show Box W w.heap.size [.int .i64 x, .int .i64 y, .int .i64 u, .int .i64 h, .int .i64 s] by rw [← hW]; exact Box.new5 _ _ _ _ _ _ _)
  have hBW : Below w.heap.size w W := by rw [← hW]; go_grown
  have HBW := Lib.hid hBW
  have HIW := Lib.hid (HI.out.below hBW)
  have HFW := Lib.hid (HF.out.below hBW)
  have HNW := Lib.hid (HN.out.below hBW)
  clear hW hBW
  have k0 := OnW.cell (W := W) HX.out.of5.1.1
  have k1 := OnW.cell (W := W) HX.out.of5.1.2.1
  have k2 := OnW.cell (W := W) HX.out.of5.1.2.2.1
  have k3 := OnW.cell (W := W) HX.out.of5.1.2.2.2.1
  have k4 := OnW.cell (W := W) HX.out.of5.1.2.2.2.2
  obtain ⟨j0, j1⟩ := OnW.of2 HIW.out
  have jf := OnW.of1 HFW.out
  have jn := OnW.of1 HNW.out
  refine wp_region_on (by kernel_rfl) (by kernel_rfl) ?_
  repeat (go_big_quiet_step ((first
    | (go_at_call 156; with_reducible exact Calls.on_of (HC.out _))
    | (go_at_call 84; with_reducible exact Calls.on_of (HC2.out _)))))
  refine wpQuiet_nil ?_
  intro w5 hw'
  obtain ⟨⟨w6, hOn⟩, hw''⟩ := hw'
  obtain rfl : w5 = w6 := hw''
  have HB5 := Lib.hid (below_then HBW.out hOn)
  clear k0 k1 k2 k3 k4 j0 j1 jf jn
  go_wp2_with fail
  go_end0
  exact ⟨rfl, HN.out.below HB5.out, HF.out.below HB5.out, Spare.below (Spare.refl _ _) HB5.out, HB.out.trans (HB5.out.mono HB.out.size)⟩
theorem next1_to {x y u h s a b nx p : Int} {v fl ok : Bool} (hv : (leaveF x u s a b != (a, b)) = v) (hr : nextV v (y + h) (nx, fl) = (p, ok)) (hw : IntKind.i64.wrap (x + u) = x + u) (hw2 : IntKind.i64.wrap (y + h) = y + h) {w0 w : World} {ki kf kn : Nat}
    (hI : Box w ki [.int .i64 a, .int .i64 b]) (hF : Box w kf [.bool fl]) (hN : Box w kn [.int .i64 nx]) (hkf : w0.heap.size ≤ kf) (hkn : w0.heap.size ≤ kn) (hne : kn ≠ kf) (hB : Below w0.heap.size w0 w) :
    Calls Tryz.prog 155 #[.agg #[.int .i64 x, .int .i64 y, .int .i64 u, .int .i64 h, .int .i64 s], .pointer (some ⟨ki, 0, none⟩), .pointer (some ⟨kf, 0, none⟩), .pointer (some ⟨kn, 0, none⟩)] w fun e w' => e = .returned (.tuple #[]) ∧ Box w' kn [.int .i64 p] ∧ Box w' kf [.bool ok] ∧ Spare [kn, kf] w w' ∧ Below w0.heap.size w0 w' := by
  unfold nextV at hr
  cases v with
  | false =>
    rw [if_neg (by decide)] at hr
    injection hr with e1 e2
    subst e1 e2
    exact next1_no hv hw hw2 hI hF hN hkf hkn hne hB
  | true =>
    rw [if_pos rfl] at hr
    cases fl with
    | false =>
      rw [if_pos (.inl rfl)] at hr
      injection hr with e1 e2
      subst e1 e2
      exact next1_first hv hw hw2 hI hF hN hkf hkn hne hB
    | true =>
      by_cases hl : y + h < nx
      · rw [if_pos (.inr hl)] at hr
        injection hr with e1 e2
        subst e1 e2
        exact next1_less hv hw hw2 hl hI hF hN hkf hkn hne hB
      · rw [if_neg (by simpa using hl)] at hr
        injection hr with e1 e2
        subst e1 e2
        exact next1_more hv hw hw2 hl hI hF hN hkf hkn hne hB
theorem ret_room {p q t p' q' t' : Int} (h : (p, q, t) = (p', q', t')) : Ending.returned (.tuple #[.agg #[.int .i64 p, .int .i64 q], .int .i64 t]) = .returned (.tuple #[.agg #[.int .i64 p', .int .i64 q'], .int .i64 t']) := by
  injection h with h1 h2; injection h2 with h2 h3; rw [h1, h2, h3]
set_option maxHeartbeats 4000000 in
theorem rroom_in {l : List Fl} {h u a b : Int} (hn : ∀ f ∈ l, f.near) (hh : NearI h) (ha : NearI a) (hb : NearI b) {A : Option Addr} {n c : Nat} : ∀ (k : Nat) (y t p q : Int) (w : World), cntA l y ≤ k → NearY y → seekE l h u a b y = t → bandL l t h (a, b) = (p, q) → Rows 7 encFl w A n l →
    Calls Tryz.prog 66 #[.slice A n c, .int .i64 u, .int .i64 h, .int .i64 y, .agg #[.int .i64 a, .int .i64 b]] w fun e w' => e = .returned (.tuple #[.agg #[.int .i64 p, .int .i64 q], .int .i64 t]) ∧ Below w.heap.size w w' := by
  intro k
  induction k with
  | zero =>
    intro y t p q w hk hy ht hp hA
    obtain ⟨⟨p1, q1⟩, hb1⟩ : ∃ r, bandL l y h (a, b) = r := ⟨_, rfl⟩
    obtain ⟨⟨nx, ok⟩, hnx⟩ : ∃ r, nextL l y h a b = r := ⟨_, rfl⟩
    have hok : ok = false := by
      cases hv : ok with
      | false => rfl
      | true =>
        have hx : (nextL l y h a b).2 = true := by rw [hnx, hv]
        have := cnt_next hx
        omega
    subst hok
    have hty : t = y := by
      rw [← ht]
      by_cases hf : fitsF l h u a b y = true
      · exact seekE_fits hf
      · exact seekE_none (by simpa using hf) (by rw [hnx])
    subst hty
    have HE := Lib.hid (show (p1, q1) = (p, q) from hb1.symm.trans hp)
    have HN := Lib.hid hn
    have HY := Lib.hid hy
    have HH := Lib.hid hh
    have HA := Lib.hid hA
    have H1 := Lib.hid hb1
    have H2 := Lib.hid hnx
    clear hb1 hnx ht hp hn hy hh ha hb hA hk
    go_enter Tryz.func66, Tryz.ntmps66
    go_wp2_with fail
    generalize hW : World.alloc (World.alloc w _) _ = W
    have HI := Lib.hid (show Box W w.heap.size [.int .i64 a, .int .i64 b] by rw [← hW]; exact (Box.new2 _ _ _ _).alloc _)
    have HR := Lib.hid (show Box W (w.heap.size + 1) [.int .i64 0, .int .i64 0] by rw [← hW]; exact Box.new2' _ _ _ _ _ (by simp))
    have HB := Lib.hid (show Below w.heap.size w W by rw [← hW]; go_grown)
    clear hW
    refine (rof10_to H1.out HN.out HY.out HH.out (HA.out.below HB.out)).mono ?_
    rintro e w1 ⟨rfl, hb⟩
    have HI1 := Lib.hid (HI.out.below hb)
    have HR1 := Lib.hid (HR.out.below hb)
    have HB1 := Lib.hid (below_then HB.out hb)
    clear hb HI HR HB
    obtain ⟨i0, i1, _, _, i4⟩ := HI1.out.of2
    go_wp2_with fail
    generalize hW : World.alloc w1 _ = W
    have hal : Below w1.heap.size w1 W := by rw [← hW]; exact (Below.refl _ _).alloc (Nat.le_refl _) _
    have HD := Lib.hid (show Box W w1.heap.size [.int .i64 p1, .int .i64 q1] by rw [← hW]; exact Box.new2 _ _ _ _)
    have HR := Lib.hid (HR1.out.below hal)
    have HI := Lib.hid (HI1.out.below hal)
    have HB := Lib.hid (below_then HB1.out hal)
    clear hW hal HI1 HR1 HB1 i0 i1 i4
    refine (rnext_to H2.out HN.out HY.out HH.out (HA.out.below HB.out)).mono ?_
    rintro e w2 ⟨rfl, hb⟩
    have HI1 := Lib.hid (HI.out.below hb)
    have HR1 := Lib.hid (HR.out.below hb)
    have HD1 := Lib.hid (HD.out.below hb)
    have HB1 := Lib.hid (below_then HB.out hb)
    clear hb HI HR HB HD
    obtain ⟨d0, d1, _, _, d4⟩ := HD1.out.of2
    obtain ⟨r0, r1, f0, f1, r4⟩ := HR1.out.of2
    go_wp2_with fail
    have hY := (HR1.out.set 0 (.int .i64 p1) (by simp)).set 1 (.int .i64 q1) (by simp)
    have s0 := hY.2.2 0 _ rfl
    have s1 := hY.2.2 1 _ rfl
    exact bodyPost_ret (v := .tuple #[.agg #[.int .i64 p1, .int .i64 q1], .int .i64 t]) (by simp [results, Tryz.results66, go_sem, s0, s1]) rfl ⟨ret_room (by have := HE.out; injection this with e1 e2; rw [e1, e2]), (HB1.out.setCell (by simp) _).setCell (by simp) _⟩
  | succ k ih =>
    intro y t p q w hk hy ht hp hA
    obtain ⟨⟨p1, q1⟩, hb1⟩ : ∃ r, bandL l y h (a, b) = r := ⟨_, rfl⟩
    obtain ⟨⟨nx, ok⟩, hnx⟩ : ∃ r, nextL l y h a b = r := ⟨_, rfl⟩
    obtain ⟨v, hv⟩ : ∃ v, lenW p1 q1 = v := ⟨_, rfl⟩
    have hfz : fitsF l h u a b y = decide (u ≤ v) := by unfold fitsF; rw [hb1]; simp only; rw [hv]
    have hbd := bandL_bd hn y h (a, b) ⟨ha.y, hb.y⟩
    rw [hb1] at hbd
    have HBD := Lib.hid hbd
    have HHV := Lib.hid hv
    have HFZ := Lib.hid hfz
    have HT := Lib.hid ht
    have HP := Lib.hid hp
    have HK := Lib.hid hk
    have HN := Lib.hid hn
    have HY := Lib.hid hy
    have HH := Lib.hid hh
    have HA := Lib.hid hA
    have H1 := Lib.hid hb1
    have H2 := Lib.hid hnx
    clear hb1 hnx ht hp hn hy hh ha hb hA hk hfz hv hbd
    go_enter Tryz.func66, Tryz.ntmps66
    go_wp2_with fail
    generalize hW : World.alloc (World.alloc w _) _ = W
    have HI := Lib.hid (show Box W w.heap.size [.int .i64 a, .int .i64 b] by rw [← hW]; exact (Box.new2 _ _ _ _).alloc _)
    have HR := Lib.hid (show Box W (w.heap.size + 1) [.int .i64 0, .int .i64 0] by rw [← hW]; exact Box.new2' _ _ _ _ _ (by simp))
    have HB := Lib.hid (show Below w.heap.size w W by rw [← hW]; go_grown)
    clear hW
    refine (rof10_to H1.out HN.out HY.out HH.out (HA.out.below HB.out)).mono ?_
    rintro e w1 ⟨rfl, hb⟩
    have HI1 := Lib.hid (HI.out.below hb)
    have HR1 := Lib.hid (HR.out.below hb)
    have HB1 := Lib.hid (below_then HB.out hb)
    clear hb HI HR HB
    obtain ⟨i0, i1, _, _, i4⟩ := HI1.out.of2
    go_wp2_with fail
    generalize hW : World.alloc w1 _ = W
    have hal : Below w1.heap.size w1 W := by rw [← hW]; exact (Below.refl _ _).alloc (Nat.le_refl _) _
    have HD := Lib.hid (show Box W w1.heap.size [.int .i64 p1, .int .i64 q1] by rw [← hW]; exact Box.new2 _ _ _ _)
    have HR := Lib.hid (HR1.out.below hal)
    have HI := Lib.hid (HI1.out.below hal)
    have HB := Lib.hid (below_then HB1.out hal)
    clear hW hal HI1 HR1 HB1 i0 i1 i4
    refine (rnext_to H2.out HN.out HY.out HH.out (HA.out.below HB.out)).mono ?_
    rintro e w2 ⟨rfl, hb⟩
    have HI1 := Lib.hid (HI.out.below hb)
    have HR1 := Lib.hid (HR.out.below hb)
    have HD1 := Lib.hid (HD.out.below hb)
    have HB1 := Lib.hid (below_then HB.out hb)
    clear hb HI HR HB HD
    obtain ⟨d0, d1, _, _, d4⟩ := HD1.out.of2
    obtain ⟨r0, r1, f0, f1, r4⟩ := HR1.out.of2
    cases ok with
    | false =>
      have HE := Lib.hid (show (p1, q1, y) = (p, q, t) by
        have hty : y = t := by
          rw [← HT.out]
          by_cases hf : fitsF l h u a b y = true
          · exact (seekE_fits hf).symm
          · exact (seekE_none (by simpa using hf) (by rw [H2.out])).symm
        have := H1.out
        rw [hty, HP.out] at this
        injection this with e1 e2
        rw [e1, e2, hty])
      go_wp2_with fail
      have hY := (HR1.out.set 0 (.int .i64 p1) (by simp)).set 1 (.int .i64 q1) (by simp)
      have s0 := hY.2.2 0 _ rfl
      have s1 := hY.2.2 1 _ rfl
      exact bodyPost_ret (v := .tuple #[.agg #[.int .i64 p1, .int .i64 q1], .int .i64 y]) (by simp [results, Tryz.results66, go_sem, s0, s1]) rfl ⟨ret_room HE.out, (HB1.out.setCell (by simp) _).setCell (by simp) _⟩
    | true =>
      by_cases hu : u ≤ v
      · have HE := Lib.hid (show (p1, q1, y) = (p, q, t) by
          have hty : y = t := by
            rw [← HT.out]
            exact (seekE_fits (by rw [HFZ.out]; exact decide_eq_true hu)).symm
          have := H1.out
          rw [hty, HP.out] at this
          injection this with e1 e2
          rw [e1, e2, hty])
        go_wp2_with fail
        refine (rlen_to HHV.out HBD.out.1 HBD.out.2 _).mono ?_
        rintro e w3 ⟨rfl, hb⟩
        have HR2 := Lib.hid (HR1.out.below hb)
        have HD2 := Lib.hid (HD1.out.below hb)
        have HB2 := Lib.hid (below_then HB1.out hb)
        clear hb HI1 HR1 HD1 HB1 d0 d1 d4 r0 r1 f0 f1 r4
        obtain ⟨d0, d1, _, _, d4⟩ := HD2.out.of2
        obtain ⟨r0, r1, f0, f1, r4⟩ := HR2.out.of2
        go_wp2_with fail
        have hY := (HR2.out.set 0 (.int .i64 p1) (by simp)).set 1 (.int .i64 q1) (by simp)
        have s0 := hY.2.2 0 _ rfl
        have s1 := hY.2.2 1 _ rfl
        exact bodyPost_ret (v := .tuple #[.agg #[.int .i64 p1, .int .i64 q1], .int .i64 y]) (by simp [results, Tryz.results66, go_sem, s0, s1]) rfl ⟨ret_room HE.out, (HB2.out.setCell (by simp) _).setCell (by simp) _⟩
      · have hu2 : v < u := by omega
        have HS := Lib.hid (show seekE l h u a b nx = t by
          have := seekE_next (l := l) (h := h) (w := u) (a := a) (b := b) (y := y) (by rw [HFZ.out]; exact decide_eq_false hu) (by rw [H2.out])
          rw [H2.out] at this
          rw [← this]; exact HT.out)
        have HC := Lib.hid (show cntA l nx ≤ k by
          have := cnt_next (l := l) (y := y) (h := h) (a := a) (b := b) (by rw [H2.out])
          rw [H2.out] at this
          have := HK.out
          simp only at *
          omega)
        have HNY := Lib.hid (show NearY nx by have := nextL_bd HN.out y h a b; rw [H2.out] at this; exact this)
        clear hu
        go_wp2_with fail
        refine (rlen_to HHV.out HBD.out.1 HBD.out.2 _).mono ?_
        rintro e w3 ⟨rfl, hb⟩
        have HR2 := Lib.hid (HR1.out.below hb)
        have HI2 := Lib.hid (HI1.out.below hb)
        have HB2 := Lib.hid (below_then HB1.out hb)
        clear hb HI1 HR1 HD1 HB1 d0 d1 d4 r0 r1 f0 f1 r4
        obtain ⟨d0, d1, _, _, d4⟩ := HI2.out.of2
        go_wp2_with fail
        refine (ih nx t p q _ HC.out HNY.out HS.out HP.out (HA.out.below HB2.out)).mono ?_
        rintro e w4 ⟨rfl, hb⟩
        have HR3 := Lib.hid (HR2.out.below hb)
        have HB3 := Lib.hid (below_then HB2.out hb)
        clear hb HR2 HI2 HB2 d0 d1 d4
        obtain ⟨r0, r1, f0, f1, r4⟩ := HR3.out.of2
        go_wp2_with fail
        have hY := (HR3.out.set 0 (.int .i64 p) (by simp)).set 1 (.int .i64 q) (by simp)
        have s0 := hY.2.2 0 _ rfl
        have s1 := hY.2.2 1 _ rfl
        exact bodyPost_ret (v := .tuple #[.agg #[.int .i64 p, .int .i64 q], .int .i64 t]) (by simp [results, Tryz.results66, go_sem, s0, s1]) rfl ⟨rfl, (HB3.out.setCell (by simp) _).setCell (by simp) _⟩
theorem rroom_to {l : List Fl} {h u a b y t p q : Int} (ht : seekE l h u a b y = t) (hp : bandL l t h (a, b) = (p, q)) (hn : ∀ f ∈ l, f.near) (hy : NearY y) (hh : NearI h) (ha : NearI a) (hb : NearI b) {A : Option Addr} {n c : Nat} {w : World} (hA : Rows 7 encFl w A n l) :
    Calls Tryz.prog 66 #[.slice A n c, .int .i64 u, .int .i64 h, .int .i64 y, .agg #[.int .i64 a, .int .i64 b]] w fun e w' => e = .returned (.tuple #[.agg #[.int .i64 p, .int .i64 q], .int .i64 t]) ∧ Below w.heap.size w w' :=
  rroom_in hn hh ha hb (cntA l y) y t p q w (Nat.le_refl _) hy ht hp hA
theorem IntsOut.ints {w w' : World} {zs : List Int} {e : Ending} (h : IntsOut w zs e w') : ∃ A n c, e = .returned (.slice A n c) ∧ n = zs.length ∧ Ints w' A n zs ∧ Below w.heap.size w w' := by
  obtain ⟨A, n, c, h1, h2, h3⟩ := h
  have hi := (ownsRow_cells h2).ints
  exact ⟨A, n, c, h1, hi.1.symm, hi, h3⟩
set_option maxHeartbeats 1000000 in
set_option maxRecDepth 100000 in
theorem vparent_to {L : List Nd} (hn : Nested L) {a : Int} (ha : -9223372036854775808 ≤ a ∧ a ≤ 9223372036854775807) {v : Int} (hv : parentI L a = v) {A : Option Addr} {n c : Nat} {w : World} (h : Sees w A n L) (hn2 : n ≤ 100000) :
    Calls Tryz.prog 92 #[.slice A n c, .int .i64 a] w fun e w' => e = .returned (.int .i64 v) ∧ Below w.heap.size w w' := by
  obtain ⟨zs, hz⟩ : ∃ zs, aboveI L a = zs := ⟨_, rfl⟩
  have HU := Lib.hid (vabove_to hn ha hz (A := A) (n := n) (c := c) (w := w) h hn2)
  unfold parentI at hv
  rw [hz] at hv
  clear ha hz h
  cases zs with
  | nil =>
    have HV := Lib.hid (show v = -1 from hv.symm)
    clear hv
    go_enter Tryz.func92, Tryz.ntmps92
    go_wp2_with fail
    refine HU.out.mono ?_
    intro e w1 hp
    obtain ⟨A1, m, c1, rfl, hm, hi, hb⟩ := hp.ints
    simp only [List.length_nil] at hm
    subst hm
    have HB := Lib.hid hb
    clear hp hi hb
    go_wp2_with fail
    go_ret
    exact ⟨ret_int HV.out.symm, HB.out⟩
  | cons z t =>
    have HV := Lib.hid (show v = z from hv.symm)
    clear hv
    go_enter Tryz.func92, Tryz.ntmps92
    go_wp2_with fail
    refine HU.out.mono ?_
    intro e w1 hp
    obtain ⟨A1, m, c1, rfl, hm, hi, hb⟩ := hp.ints
    have hm1 : 0 < m := by rw [hm]; simp
    obtain ⟨b1, o1, rfl, hc⟩ := hi.at_ hm1
    have hc0 : w1.cell? ⟨b1, o1 + 0, none⟩ = some (.int .i64 z) := hc
    have hc1 : w1.cell? ⟨b1, o1, none⟩ = some (.int .i64 z) := hc
    have hm2 : ((m : Int) == 0) = false := by simp; omega
    have hm3 : (0 : Int) < (m : Int) := by omega
    have HB := Lib.hid hb
    clear hp hi hb hm hc
    go_wp2_with fail
    go_ret
    exact ⟨ret_int HV.out.symm, HB.out⟩
def encRm (p : Int × Int) : List Value := [.int .i64 p.1, .int .i64 p.2]
theorem encRm_len (p : Int × Int) : (encRm p).length = 2 := rfl
theorem room_info : (Tryz.prog.info? 90).map (fun i => (i.zero, i.size, i.bytes)) = some (some (.agg #[.int .i64 0, .int .i64 0]), 2, 16) := by kernel_rfl
theorem parentI_none {L : List Nd} {b : Nat} (hb : b < L.length) (h : parentP L b = none) : parentI L (b : Int) = -1 := by rw [parentI_nat hb, h]
theorem parentI_some {L : List Nd} {b p : Nat} (hb : b < L.length) (h : parentP L b = some p) : parentI L (b : Int) = (p : Int) := by rw [parentI_nat hb, h]
set_option maxHeartbeats 4000000 in
set_option maxRecDepth 100000 in
theorem vroom_all {L : List Nd} (hd : IsDoc L) {W : Int} (hw1 : 1 ≤ W) (hw2 : W ≤ maxX) {A : Option Addr} {n c : Nat} (hn2 : n ≤ 100000) : ∀ (b : Nat) (x y : Int), roomP L W b = (x, y) → b < n → ∀ (w : World), Sees w A n L →
    Calls Tryz.prog 60 #[.slice A n c, .int .i64 (b : Int), .int .i64 W] w fun e w' => e = .returned (.agg #[.int .i64 x, .int .i64 y]) ∧ Below w.heap.size w w' := by
  have hnest := hd.2.nested
  intro b
  induction b using Nat.strongRecOn with
  | _ b ih =>
  intro x y hr hbn w h
  have hl := h.len
  have HA := Lib.hid h
  have HW2 := Lib.hid hw2
  cases hp : parentP L b with
  | none =>
    have HP := Lib.hid (parentI_none (by omega) hp)
    rw [room_top hp] at hr
    injection hr with h1 h2
    subst h1 h2
    clear ih h hp hl hw2
    go_enter Tryz.func60, Tryz.ntmps60
    go_wp2_with fail
    refine (vparent_to hnest (by omega) HP.out (HA.out.below (show Below w.heap.size w _ by go_grown)) hn2).mono ?_
    rintro e w1 ⟨rfl, hb⟩
    have hX : Box w1 w.heap.size [.int .i64 0, .int .i64 0] := (box_new w _ _ _ rfl _ rfl).below hb
    obtain ⟨a0, a1, a2, a3, a4⟩ := hX.of2
    have HB := Lib.hid (below_then (show Below w.heap.size w _ by go_grown) hb)
    have HX := Lib.hid hX
    clear hb hX
    go_wp2_with fail
    have hY := (HX.out.set 0 (.int .i64 0) (by simp)).set 1 (.int .i64 W) (by simp)
    have r0 := hY.2.2 0 _ rfl
    have r1 := hY.2.2 1 _ rfl
    exact bodyPost_ret (v := .agg #[.int .i64 0, .int .i64 W]) (by simp [results, Tryz.results60, go_sem, r0, r1]) rfl ⟨rfl, (HB.out.setCell (by simp) _).setCell (by simp) _⟩
  | some p =>
    have hpl := (parent_lt hp).1
    have HP := Lib.hid (parentI_some (by omega) hp)
    have hin := inset_bd hd.1 p
    obtain ⟨⟨x', y'⟩, hrp⟩ : ∃ q, roomP L W p = q := ⟨_, rfl⟩
    have hbd := room_bd hd.1 hw1 hw2 p
    rw [hrp] at hbd
    obtain ⟨q1, q2, q3, q4⟩ := hbd
    simp only at q1 q2 q3 q4
    rw [room_step hp, hrp] at hr
    injection hr with h1 h2
    have HI := Lib.hid (fun v hv => ih p hpl x' y' hrp (by omega) v hv)
    obtain ⟨b1, o1, m1, x1, rfl, hb1, e1, r1, s1⟩ := h.at_ (show p < n by omega)
    have hins : insetAt L p = m1.sty.inset := by unfold insetAt; rw [e1]; show x1.sty.inset = _; rw [s1.1.2.2.1]
    have R1 := Lib.hid (show ∀ v, On w v → v.cell? ⟨b1, o1 + p * 20 + 2 + 4, none⟩ = some (.int .i64 m1.sty.inset) from fun v hv => range_on r1 v hv 6 _ rfl)
    rw [hins] at hin h1 h2
    obtain ⟨i, hi⟩ : ∃ i, m1.sty.inset = i := ⟨_, rfl⟩
    rw [hi] at hin h1 h2 R1
    obtain ⟨i0, i1⟩ := hin
    simp only at h1 h2
    have q5 : y' ≤ 1099511627776 := Int.le_trans q4 hw2
    unfold maxX at q2 i1 h1
    have HX1 := Lib.hid h1
    have HX2 := Lib.hid h2
    have hpn : (p : Int) < (n : Int) := by omega
    have hpb : ¬ ((p : Int) < 0) := by omega
    clear ih h hp hl hw2 hrp h1 h2 r1 s1 e1 hins hi HW2 q4 hw1
    go_enter Tryz.func60, Tryz.ntmps60
    go_wp2_with fail
    refine (vparent_to hnest (by omega) HP.out (HA.out.below (show Below w.heap.size w _ by go_grown)) hn2).mono ?_
    rintro e w1 ⟨rfl, hb⟩
    have HB := Lib.hid (below_then (show Below w.heap.size w _ by go_grown) hb)
    have HX := Lib.hid (show Box w1 w.heap.size [.int .i64 0, .int .i64 0] from (box_new w _ _ _ rfl _ rfl).below hb)
    clear hb
    go_wp2_with fail
    refine (HI.out _ (HA.out.below HB.out)).mono ?_
    rintro e w2 ⟨rfl, hb⟩
    have HB2 := Lib.hid (below_then HB.out hb)
    have HXX := Lib.hid (HX.out.below hb)
    have g1 := R1.out w2 HB2.out
    clear hb
    have hlt : w.heap.size < w2.heap.size := HXX.out.lt
    have hne : ¬ w.heap.size = w2.heap.size := by omega
    obtain ⟨a0, a1, a2, a3, a4⟩ := HXX.out.of2
    have g2 := R1.out _ (HB2.out.alloc (by omega) (.cells #[.int .i64 x', .int .i64 y'] 90))
    have hy0 : 0 ≤ y' := by omega
    clear g1
    go_wp2_with fail
    have hmx := HX1.out
    have hmy := HX2.out
    have hY := ((HXX.out.set 0 (.int .i64 (min (x' + i) 1099511627776)) (by simp)).set 1 (.int .i64 (max (y' - i - i) 1)) (by simp)).alloc (.cells #[.int .i64 x', .int .i64 y'] 90)
    have r0 := hY.2.2 0 _ rfl
    have r1 := hY.2.2 1 _ rfl
    exact bodyPost_ret (v := .agg #[.int .i64 x, .int .i64 y]) (by rw [← hmx, ← hmy]; simp [results, Tryz.results60, go_sem, r0, r1]) rfl ⟨rfl, ((HB2.out.setCell (by simp) _).setCell (by simp) _).alloc (by simp; omega) _⟩
theorem vroom_to {L : List Nd} (hd : IsDoc L) {W : Int} (hw1 : 1 ≤ W) (hw2 : W ≤ maxX) {A : Option Addr} {n c b : Nat} (hn2 : n ≤ 100000) (hbn : b < n) {w : World} (h : Sees w A n L) :
    Calls Tryz.prog 60 #[.slice A n c, .int .i64 (b : Int), .int .i64 W] w fun e w' => e = .returned (.agg #[.int .i64 (roomP L W b).1, .int .i64 (roomP L W b).2]) ∧ Below w.heap.size w w' :=
  vroom_all hd hw1 hw2 hn2 b _ _ rfl hbn w h
def roomsTo (L : List Nd) (W : Int) (k : Nat) : List (Int × Int) := (List.range k).map (roomP L W)
theorem roomsTo_zero (L : List Nd) (W : Int) : roomsTo L W 0 = [] := rfl
theorem roomsTo_len (L : List Nd) (W : Int) (k : Nat) : (roomsTo L W k).length = k := by unfold roomsTo; rw [List.length_map, List.length_range]
theorem roomsTo_step (L : List Nd) (W : Int) (k : Nat) : roomsTo L W (k + 1) = roomsTo L W k ++ [roomP L W k] := by
  unfold roomsTo
  rw [List.range_succ, List.map_append]
  rfl
theorem roomsTo_cells (L : List Nd) (W : Int) (k : Nat) : (roomsTo L W (k + 1)).flatMap encRm = (roomsTo L W k).flatMap encRm ++ [.int .i64 (roomP L W k).1, .int .i64 (roomP L W k).2] := by
  rw [roomsTo_step, List.flatMap_append]
  rfl
theorem roomsTo_get {L : List Nd} {W : Int} {k i : Nat} (h : i < k) : (roomsTo L W k)[i]? = some (roomP L W i) := by
  unfold roomsTo
  rw [List.getElem?_map, List.getElem?_range h]
  rfl
def roomsI (L : List Nd) (W : Int) : List (Int × Int) := if W < 1 ∨ maxX < W then [] else roomsTo L W L.length
theorem sum_two {x i : Int} (h0 : 0 ≤ x) (h1 : x ≤ 1099511627776) (h2 : 0 ≤ i) (h3 : i ≤ 1099511627776) : sumL [x, i] = min (x + i) 1099511627776 := by
  show lim (lim (0 + lim x) + lim i) = _
  rw [lim_in (n := x) (by omega) h1, lim_in (n := 0 + x) (by omega) (by omega), lim_in (n := i) (by omega) h3]
  unfold lim
  omega
set_option maxHeartbeats 2000000 in
set_option maxRecDepth 100000 in
theorem twithin_to {x y i p q : Int} (x0 : 0 ≤ x) (x1 : x ≤ 1099511627776) (y0 : 1 ≤ y) (y1 : y ≤ 1099511627776) (i0 : 0 ≤ i) (i1 : i ≤ 1099511627776) (hp : min (x + i) 1099511627776 = p) (hq : max (y - i - i) 1 = q) (w : World) :
    Calls Tryz.prog 37 #[.agg #[.int .i64 x, .int .i64 y], .int .i64 i] w fun e w' => e = .returned (.agg #[.int .i64 p, .int .i64 q]) ∧ Below w.heap.size w w' := by
  have HP := Lib.hid (show sumL [x, i] = p by rw [sum_two x0 x1 i0 i1, hp])
  have HQ := Lib.hid (show max (y - 2 * i) 1 = q by rw [← hq]; omega)
  have hw1 : IntKind.i64.wrap (2 * i) = 2 * i := IntWalk.i64_in _ (by omega)
  have hw2 : IntKind.i64.wrap (y - 2 * i) = y - 2 * i := IntWalk.i64_in _ (by omega)
  clear hp hq
  go_enter Tryz.func37, Tryz.ntmps37
  go_wp2_with fail
  generalize hW : (w.alloc (.cells #[.int .i64 x, .int .i64 y] 90)).alloc (.cells #[.int .i64 0, .int .i64 0] 90) = W
  have hA : Box W w.heap.size [.int .i64 x, .int .i64 y] := by rw [← hW]; exact (Box.new2 _ _ _ _).alloc _
  have hR : Box W (w.heap.size + 1) [.int .i64 0, .int .i64 0] := by rw [← hW]; exact Box.new2' _ _ _ _ _ (by simp)
  have HB := Lib.hid (show Below w.heap.size w W by rw [← hW]; go_grown)
  clear hW
  obtain ⟨a0, a1⟩ := On.of2 hA
  refine wp_region_held_tail 12 (S := fun W' => On W W') (by kernel_rfl) (by kernel_rfl) rfl (On.refl _).drew (fun h0 => ?_)
  simp only [headOf, List.take_succ_cons, List.take_zero, List.getElem_toArray, List.getElem_cons_succ, List.getElem_cons_zero]
  refine wpAnyH_take (i := 0) (v := ?_) rfl (by kernel_rfl) (by kernel_rfl) (by kernel_rfl) (fun _ _ _ h => h) (Or.inl ⟨by rfl, ?_⟩) h0 ?_
  rotate_left
  · intro w hSw; (try dsimp only at hSw); go_simp; with_reducible rfl
  try simp only [Act.put, List.setIfInBounds_toArray, List.set_cons_zero, List.set_cons_succ]
  refine wpAnyH_take (i := 1) (v := ?_) rfl (by kernel_rfl) (by kernel_rfl) (by kernel_rfl) (fun _ _ _ h => h) (Or.inl ⟨by rfl, ?_⟩) h0 ?_
  rotate_left
  · intro w hSw; (try dsimp only at hSw); go_simp; with_reducible rfl
  try simp only [Act.put, List.setIfInBounds_toArray, List.set_cons_zero, List.set_cons_succ]
  refine wpAnyH_take (i := 2) (v := ?_) rfl (by kernel_rfl) (by kernel_rfl) (by kernel_rfl) (fun _ _ _ h => h) (Or.inl ⟨by rfl, ?_⟩) h0 ?_
  rotate_left
  · intro w hSw; (try dsimp only at hSw); go_simp; with_reducible rfl
  try simp only [Act.put, List.setIfInBounds_toArray, List.set_cons_zero, List.set_cons_succ]
  refine wpAnyH_take (i := 5) (v := ?_) rfl (by kernel_rfl) (by kernel_rfl) (by kernel_rfl) (fun _ _ _ h => h) (Or.inl ⟨by rfl, ?_⟩) h0 ?_
  rotate_left
  · intro w hSw; (try dsimp only at hSw); go_simp; with_reducible rfl
  try simp only [Act.put, List.setIfInBounds_toArray, List.set_cons_zero, List.set_cons_succ]
  refine wpAnyH_take (i := 6) (v := ?_) rfl (by kernel_rfl) (by kernel_rfl) (by kernel_rfl) (fun _ _ _ h => h) (Or.inl ⟨by rfl, ?_⟩) h0 ?_
  rotate_left
  · intro w hSw; (try dsimp only at hSw); go_simp; with_reducible rfl
  try simp only [Act.put, List.setIfInBounds_toArray, List.set_cons_zero, List.set_cons_succ]
  refine wpAnyH_take (i := 7) (v := ?_) rfl (by kernel_rfl) (by kernel_rfl) (by kernel_rfl) (fun _ _ _ h => h) (Or.inl ⟨by rfl, ?_⟩) h0 ?_
  rotate_left
  · intro w hSw; (try dsimp only at hSw); go_simp; with_reducible rfl
  try simp only [Act.put, List.setIfInBounds_toArray, List.set_cons_zero, List.set_cons_succ]
  refine wpAnyH_take (i := 8) (v := ?_) rfl (by kernel_rfl) (by kernel_rfl) (by kernel_rfl) (fun _ _ _ h => h) (Or.inl ⟨by rfl, ?_⟩) h0 ?_
  rotate_left
  · intro w hSw; (try dsimp only at hSw); go_simp; with_reducible rfl
  try simp only [Act.put, List.setIfInBounds_toArray, List.set_cons_zero, List.set_cons_succ]
  refine wpAnyH_take (i := 9) (v := ?_) rfl (by kernel_rfl) (by kernel_rfl) (by kernel_rfl) (fun _ _ _ h => h) (Or.inl ⟨by rfl, ?_⟩) h0 ?_
  rotate_left
  · intro w hSw; (try dsimp only at hSw); go_simp; with_reducible rfl
  try simp only [Act.put, List.setIfInBounds_toArray, List.set_cons_zero, List.set_cons_succ]
  refine wpAnyH_take (i := 10) (v := ?_) rfl (by kernel_rfl) (by kernel_rfl) (by kernel_rfl) (fun _ _ _ h => h) (Or.inl ⟨by rfl, ?_⟩) h0 ?_
  rotate_left
  · intro w hSw; (try dsimp only at hSw); go_simp; with_reducible rfl
  try simp only [Act.put, List.setIfInBounds_toArray, List.set_cons_zero, List.set_cons_succ]
  refine wpAnyH_ready (rs := [3]) (by kernel_rfl) (by simp) ?_
  refine AllReadyH.cons rfl (fun K hK => ?_) AllReadyH.nil
  go_simp
  refine hK.out _ _ (On.alloc h0 _) (fun h1 => ?_)
  clear hK K
  try simp only [Act.put, List.setIfInBounds_toArray, List.set_cons_zero, List.set_cons_succ]
  refine wpAnyH_ready (rs := [4]) (by kernel_rfl) (by simp) ?_
  refine AllReadyH.cons rfl (fun K hK => ?_) AllReadyH.nil
  go_simp
  refine (add_any _ _ _ _ _ ((Ints.new2 W 3 x i).below (Below.refl _ _).drew rfl)).mono ?_
  rintro e v2 ⟨rfl, rfl⟩
  refine hK.out _ _ h1 (fun h2 => ?_)
  clear hK K
  try simp only [Act.put, List.setIfInBounds_toArray, List.set_cons_zero, List.set_cons_succ]
  refine wpAnyH_take (i := 11) (v := ?_) rfl (by kernel_rfl) (by kernel_rfl) (by kernel_rfl) (fun _ _ _ h => h) (Or.inl ⟨by rfl, ?_⟩) h2 ?_
  rotate_left
  · intro w hSw; (try dsimp only at hSw); go_simp; with_reducible rfl
  try simp only [Act.put, List.setIfInBounds_toArray, List.set_cons_zero, List.set_cons_succ]
  refine wpAnyH_done (by kernel_rfl) ?_ _
  show wpList _ _ _ _ _ _
  replace hR := On.box hR _ h2
  replace HB := Lib.hid (below_then HB.out h2)
  clear a0 a1 hA h0 h1 h2
  generalize (W.alloc (.cells #[.int .i64 x, .int .i64 i] 3)).drew = V at hR HB ⊢
  obtain ⟨r0, r1, f0, f1, r4⟩ := hR.of2
  rw [HP.out]
  have hbs := HB.out.size
  go_wp2_with fail
  have hY := (hR.set 0 (.int .i64 p) (by simp)).set 1 (.int .i64 (max (y - 2 * i) 1)) (by simp)
  have s0 := hY.2.2 0 _ rfl
  have s1 := hY.2.2 1 _ rfl
  exact bodyPost_ret (v := .agg #[.int .i64 p, .int .i64 q]) (by rw [← HQ.out]; simp [results, Tryz.results37, go_sem, s0, s1]) rfl ⟨rfl, (HB.out.setCell (by simp) _).setCell (by simp) _⟩
end Go.Proofs.YtipmdhfinlkceaaGreat
