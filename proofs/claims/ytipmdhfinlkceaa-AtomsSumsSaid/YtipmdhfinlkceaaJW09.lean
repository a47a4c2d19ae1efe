import Derived.Test.YtipmdhfinlkceaaJW03
import Derived.Test.YtipmdhfinlkceaaJW01
import Derived.Test.YtipmdhfinlkceaaJW04
import Derived.Test.YtipmdhfinlkceaaJW05
import Derived.Test.YtipmdhfinlkceaaJW00
import Derived.Deep.QuietTactic
import Derived.BigQuiet
import Derived.Deep.MidRow
import Derived.Test.YtipmdhfinlkceaaJW06
import Derived.Lib.MinMax
/- AtomsSearch, BandsLowest, LexRef2, PlaceRef, ReadLetter, TreeRef3, LinesRef. -/
set_option linter.unusedVariables false
set_option linter.unusedSimpArgs false
namespace Go.Proofs.Ytipmdhfinlkceaa
open Go.RowKit
set_option maxHeartbeats 2000000 in
set_option maxRecDepth 100000 in
theorem abeg1_to {l : List Am} {x : Int} {v : Bool} {b j : Nat} {A : Option Addr} {n c : Nat} {y : Am} {w : World} (h : Rows 8 encAm w A n l) (c0 : w.cell? ⟨b, 0, none⟩ = some (.slice A n c)) (c1 : w.cell? ⟨b + 1, 0, none⟩ = some (.int .i64 x)) (hy : l[j]? = some y) (hv : decide (x ≤ y.node) = v) :
    Calls Try.prog 28 #[.int .i64 (j : Int), .pointer (some ⟨b, 0, none⟩), .pointer (some ⟨b + 1, 0, none⟩)] w fun e w' => e = .returned (.bool v) ∧ Below w.heap.size w w' := by
  have hl := h.len
  have hj : j < n := by have := (List.getElem?_eq_some_iff.1 hy).1; omega
  have hj2 : (j : Int) < (n : Int) := by omega
  obtain ⟨a, off, y', rfl, hb, hy', c3, c5, c7⟩ := am_at h hj
  obtain rfl : y = y' := by rw [hy] at hy'; injection hy'
  have HV := Lib.hid hv
  obtain ⟨p0, p1, p2, p3, p4, p5, p6, p7⟩ := y
  simp only at c3 HV
  clear h hl hy hy' c5 c7 hv
  go_enter Try.func28, Try.ntmps28
  go_wp2_with fail
  go_region
  go_wp2_with fail
  go_ret
  exact ⟨ret_bool HV.out, by go_grown⟩
set_option maxHeartbeats 2000000 in
set_option maxRecDepth 100000 in
theorem asearch_to {l : List Am} (hr : Rising l) {x : Int} {b : Nat} {A : Option Addr} {n c : Nat} {w : World} (h : Rows 8 encAm w A n l) (hn : n ≤ 10000000) (c0 : w.cell? ⟨b, 0, none⟩ = some (.slice A n c)) (c1 : w.cell? ⟨b + 1, 0, none⟩ = some (.int .i64 x)) :
    Calls Try.prog 27 #[.int .i64 (n : Int), .func (.func 28) #[] #[.pointer (some ⟨b, 0, none⟩), .pointer (some ⟨b + 1, 0, none⟩)]] w fun e w' => e = .returned (.int .i64 (cutA l x : Int)) ∧ Below w.heap.size w w' := by
  have HL := Lib.hid h.len
  have HC := Lib.hid (fun (W : World) (hW : On w W) (j : Nat) (y : Am) (v : Bool) (hy : l[j]? = some y) (hv : decide (x ≤ y.node) = v) => abeg1_to (h.on hW) (On.cell c0 W hW) (On.cell c1 W hW) hy hv)
  have HR := Lib.hid hr
  clear h c0 c1 hr
  go_enter Try.func27, Try.ntmps27
  go_wp2_with fail
  go_loopw [5, 6] (fun a d wr => ∃ i j : Nat, a = .int .i64 (i : Int) ∧ d = .int .i64 (j : Int) ∧ i ≤ j ∧ j ≤ n ∧ Hid (∀ (k : Nat) (y : Am), k < i → l[k]? = some y → y.node < x) ∧ Hid (∀ (k : Nat) (y : Am), j ≤ k → l[k]? = some y → x ≤ y.node) ∧ Hid (On w wr)) (fun a d _ => (intOf d).toNat - (intOf a).toNat)
  case atStart => exact ⟨0, n, rfl, rfl, Nat.zero_le _, Nat.le_refl _, Lib.hid (fun k y hk => by omega), Lib.hid (fun k y hk hy => by have := (List.getElem?_eq_some_iff.1 hy).1; have := HL.out; omega), Lib.hid (On.refl _)⟩
  case round =>
    obtain ⟨i, j, rfl, rfl, hij, hjn, HA, HD, HO⟩ := hrel
    by_cases hlt : i < j
    · have hlt2 : (i : Int) < (j : Int) := by omega
      obtain ⟨m, hm⟩ : ∃ m : Nat, (i + j) / 2 = m := ⟨_, rfl⟩
      have hm1 : i ≤ m := by omega
      have hm2 : m < j := by omega
      have hy : l[m]? = some (l[m]'(by have := HL.out; omega)) := List.getElem?_eq_getElem _
      obtain ⟨y, hyy⟩ : ∃ y, l[m]'(by have := HL.out; omega) = y := ⟨_, rfl⟩
      rw [hyy] at hy
      have HY := Lib.hid hy
      have HM := Lib.hid hm
      clear hy hyy hm
      go_wp2_with fail
      rw [show ((i : Int) + (j : Int)) / 2 = (m : Int) by have := HM.out; omega]
      rcases hv : decide (x ≤ y.node) with _ | _
      · have HV := Lib.hid hv
        refine (HC.out wr HO.out m y false HY.out hv).mono ?_
        rintro e w1 ⟨rfl, hb⟩
        have HO1 := Lib.hid (HO.out.step hb)
        have HA1 := Lib.hid (show ∀ (k : Nat) (z : Am), k < m + 1 → l[k]? = some z → z.node < x from fun k z hk hz => by
          have h1 := HR.out k m z y (by omega) hz HY.out
          have h2 := of_decide_eq_false HV.out
          omega)
        clear hv hb HC
        go_wp2_with fail
        go_roundw
        case rel => exact ⟨m + 1, j, by go_num, rfl, by omega, hjn, HA1, HD, HO1⟩
        case measure => simp [intOf] <;> omega
      · have HV := Lib.hid hv
        refine (HC.out wr HO.out m y true HY.out hv).mono ?_
        rintro e w1 ⟨rfl, hb⟩
        have HO1 := Lib.hid (HO.out.step hb)
        have HD1 := Lib.hid (show ∀ (k : Nat) (z : Am), m ≤ k → l[k]? = some z → x ≤ z.node from fun k z hk hz => by
          have h1 := HR.out m k y z hk HY.out hz
          have h2 := of_decide_eq_true HV.out
          omega)
        clear hv hb HC
        go_wp2_with fail
        go_roundw
        case rel => exact ⟨i, m, rfl, rfl, hm1, by omega, HA, HD1, HO1⟩
        case measure => simp [intOf] <;> omega
    · obtain rfl : i = j := by omega
      have HE := Lib.hid ((show CutAt l x i from ⟨by have := HL.out; omega, HA.out, HD.out⟩).same (cutA_at HR.out x))
      go_wp2_with fail
      go_ret
      exact ⟨ret_int (by rw [HE.out]), HO.out⟩
set_option maxHeartbeats 2000000 in
set_option maxRecDepth 100000 in
theorem abegin_to {l : List Am} (hr : Rising l) {x v : Int} (hv : (cutA l x : Int) = v) {A : Option Addr} {n c : Nat} {w : World} (h : Rows 8 encAm w A n l) (hn : n ≤ 10000000) :
    Calls Try.prog 19 #[.slice A n c, .int .i64 x] w fun e w' => e = .returned (.int .i64 v) ∧ Below w.heap.size w w' := by
  have HR := Lib.hid h
  have HG := Lib.hid hr
  have HV := Lib.hid hv
  clear h hr hv
  go_enter Try.func19, Try.ntmps19
  go_wp2_with fail
  generalize hW : World.alloc (World.alloc w _) _ = W
  have HB0 := Lib.hid (show Box W w.heap.size [.slice A n c] by rw [← hW]; exact (Box.new w [.slice A n c] _).alloc _)
  have HB1 := Lib.hid (show Box W (w.heap.size + 1) [.int .i64 x] by rw [← hW]; exact box_new _ [.int .i64 x] _ _ (by simp) _ rfl)
  have HO := Lib.hid (show On w W by rw [← hW]; exact (On.alloc (On.refl w) _).alloc _)
  clear hW
  refine (asearch_to HG.out (c := c) (HR.out.on HO.out) hn (HB0.out.2.2 0 _ rfl) (HB1.out.2.2 0 _ rfl)).mono ?_
  rintro e w1 ⟨rfl, hb⟩
  have HO1 := Lib.hid (HO.out.step hb)
  clear hb
  go_wp2_with fail
  go_ret
  exact ⟨ret_int HV.out, HO1.out⟩
set_option maxHeartbeats 4000000 in
set_option maxRecDepth 100000 in
theorem awithin_to {L : List Nd} {l : List Am} (hr : Rising l) (hd : Nested L) {a p q : Int} (hv : wthI L l a = (p, q)) {A2 : Option Addr} {nn cn : Nat} {A : Option Addr} {n c : Nat} {w : World} (hS : Sees w A2 nn L) (h : Rows 8 encAm w A n l) (hn : n ≤ 10000000) (hnn : nn ≤ 100000) :
    Calls Try.prog 8 #[.slice A2 nn cn, .slice A n c, .int .i64 a] w fun e w' => e = .returned (.tuple #[.int .i64 p, .int .i64 q]) ∧ Below w.heap.size w w' := by
  have hl := hS.len
  have hll := h.len
  by_cases ha : 0 ≤ a ∧ a < (nn : Int)
  · have HB := Lib.hid (am_in ha)
    obtain ⟨i, rfl⟩ : ∃ i : Nat, a = (i : Int) := ⟨a.toNat, by omega⟩
    have hi2 : (i : Int) < (nn : Int) := ha.2
    have hin : i < nn := by omega
    obtain ⟨b1, o1, m1, x1, rfl, hb1, e1, r1, s1⟩ := hS.at_ hin
    have c1 := r1 1 _ rfl
    have hms : m1.size = x1.size := s1.1.2.1.symm
    have hs := hd i x1 e1
    have hs1 := hs.1
    have hs2 := hs.2.1
    obtain ⟨z, hz⟩ : ∃ z, m1.size = z := ⟨_, rfl⟩
    have c1' : w.cell? ⟨b1, o1 + i * 20 + 1, none⟩ = some (.int .i64 z) := by rw [← hz]; exact c1
    rw [hz] at hms
    rw [← hms] at hs1 hs2
    have hwr : IntKind.i64.wrap ((i : Int) + z) = (i : Int) + z := IntWalk.i64_in _ (by omega)
    obtain ⟨u, hu⟩ : ∃ u, (cutA l (i : Int) : Int) = u := ⟨_, rfl⟩
    obtain ⟨v, hv2⟩ : ∃ v, (cutA l ((i : Int) + z) : Int) = v := ⟨_, rfl⟩
    have HV := Lib.hid (show (p, q) = if v ≤ u then (0, 0) else (u, v) by
      rw [← hv]; unfold wthI
      rw [if_pos ha.1, Int.toNat_natCast, e1]
      simp only
      rw [← hms]
      by_cases hc : cutA l ((i : Int) + z) ≤ cutA l (i : Int)
      · rw [if_pos hc, if_pos (by omega)]
      · rw [if_neg hc, if_neg (by omega), hu, hv2])
    have HC1 := Lib.hid (fun p : OnW w => abegin_to (c := c) hr hu (h.on p.h) hn)
    have HC2 := Lib.hid (fun p : OnW w => abegin_to (c := c) hr hv2 (h.on p.h) hn)
    have k1 : ∀ p : OnW w, p.w.cell? ⟨b1, o1 + i * 20 + 1, none⟩ = some (.int .i64 z) := OnW.cell c1'
    clear hS h hv hl ha hll hr hd r1 s1 hs hms hz c1 c1' hu hv2 e1 hs1 hs2
    by_cases hvu : v ≤ u
    all_goals
      go_enter Try.func8, Try.ntmps8
      go_wp2_with fail
      refine (nhas_to HB.out _ _ (by omega) _).mono ?_
      rintro e w1 ⟨rfl, rfl⟩
      go_wp2_with fail
      refine wp_region_on (by kernel_rfl) (by kernel_rfl) ?_
      repeat (go_big_quiet_step (first | (go_at_call 19; with_reducible exact Calls.on_of (HC1.out _)) | (go_at_call 19; with_reducible exact Calls.on_of (HC2.out _))))
      refine wpQuiet_nil ?_
      intro w5 hw'
      obtain ⟨⟨w6, hOn⟩, hw''⟩ := hw'
      obtain rfl : w5 = w6 := hw''
      go_wp2_with fail
    · exact bodyPost_ret (v := .tuple #[.int .i64 0, .int .i64 0]) (by simp [results, Try.results8, go_sem]) rfl ⟨by have := HV.out; rw [if_pos hvu] at this; injection this with e1 e2; rw [e1, e2], hOn⟩
    · exact bodyPost_ret (v := .tuple #[.int .i64 u, .int .i64 v]) (by simp [results, Try.results8, go_sem]) rfl ⟨by have := HV.out; rw [if_neg (by omega)] at this; injection this with e1 e2; rw [e1, e2], hOn⟩
  · have HB := Lib.hid (am_out ha)
    have HV := Lib.hid (show (p, q) = (0, 0) by
      rw [← hv]; unfold wthI
      split
      · rw [List.getElem?_eq_none_iff.2 (by omega)]
      · rfl)
    clear hS h hv hl ha hll
    go_enter Try.func8, Try.ntmps8
    go_wp2_with fail
    refine (nhas_to HB.out _ _ (by omega) _).mono ?_
    rintro e w1 ⟨rfl, rfl⟩
    go_wp2_with fail
    exact bodyPost_ret (v := .tuple #[.int .i64 0, .int .i64 0]) (by simp [results, Try.results8, go_sem]) rfl ⟨by have := HV.out; injection this with e1 e2; rw [e1, e2], by go_grown⟩
set_option maxHeartbeats 8000000 in
set_option maxRecDepth 100000 in
theorem rlowest_to {l : List Fl} {sides p : Int} {ok : Bool} (hv : lowestL l sides = (p, ok)) (hn : ∀ f ∈ l, f.near) {A : Option Addr} {n c : Nat} {w : World} (h : Rows 7 encFl w A n l) :
    Calls Try.prog 36 #[.slice A n c, .int .i64 sides] w fun e w' => e = .returned (.tuple #[.int .i64 p, .bool ok]) ∧ Below w.heap.size w w' := by
  have HA := Lib.hid h
  have HL := Lib.hid h.1
  have hnb := h.2.1
  have HV := Lib.hid hv
  have HN := Lib.hid hn
  clear h hv hn
  go_enter Try.func36, Try.ntmps36
  go_wp2_with fail
  go_loopw [6, 7, 8] (fun s' fl' i wr => ∃ (k m : Nat) (s : Int) (fl : Bool), i = .int .i64 (k : Int) ∧ s' = .int .i64 s ∧ fl' = .bool fl ∧ k ≤ n ∧ Hid ((l.take k).foldl (lowStep sides) (0, false) = (s, fl)) ∧ wr = w.drewN m) (fun _ _ i _ => n - (intOf i).toNat)
  case atStart => exact ⟨0, 0, 0, false, rfl, rfl, rfl, Nat.zero_le _, Lib.hid rfl, rfl⟩
  case round =>
    obtain ⟨k, m, s, fl, rfl, rfl, rfl, hkn, HF, rfl⟩ := hrel
    by_cases hlt : k < n
    · have hlt2 : (k : Int) < (n : Int) := by omega
      obtain ⟨b1, o1, f, rfl, hb1, hf, q0, q1, q2, q3, q4, q5, q6⟩ := fl_at HA.out hlt
      have HST := Lib.hid (foldl_one (lowStep sides) (0, false) hf)
      have HFN := Lib.hid (HN.out f (List.mem_of_getElem? hf))
      have hyb := HFN.out.2.1
      have hhb := HFN.out.2.2.2
      obtain ⟨f0, f1, f2, f3, f4, f5, f6⟩ := f
      simp only at q0 q1 q2 q3 q4 q5 q6 hyb hhb
      obtain ⟨y1', y2'⟩ := hyb
      obtain ⟨h1', h2'⟩ := hhb
      unfold farB at y1' y2' h1' h2'
      have hwr2 : IntKind.i64.wrap (f4 + f6) = f4 + f6 := IntWalk.i64_in _ (by omega)
      obtain ⟨u, hu⟩ : ∃ u, bits .and .i64 f1 sides = u := ⟨_, rfl⟩
      have HU := Lib.hid (show andI f1 sides = u from hu)
      clear hf q0 q2 q3 q5 HFN
      by_cases hu0 : u = 0
      · have hub : (u == 0) = true := by simpa using hu0
        have HS := Lib.hid (show (l.take (k + 1)).foldl (lowStep sides) (0, false) = (s, fl) by rw [HST.out, HF.out]; unfold lowStep; rw [if_pos (HU.out.trans hu0)])
        clear hu0
        go_wp2_with fail
        go_roundw
        case rel => exact ⟨k + 1, _, _, _, by go_num, rfl, rfl, by omega, HS, rfl⟩
        case measure => simp [intOf] <;> omega
      · have hub : (u == 0) = false := by simpa using hu0
        have HU0 := Lib.hid (show ¬ andI f1 sides = 0 from fun q => hu0 (HU.out.symm.trans q))
        clear hu0
        cases fl with
        | false =>
          have HS := Lib.hid (show (l.take (k + 1)).foldl (lowStep sides) (0, false) = (f4 + f6, true) by rw [HST.out, HF.out]; unfold lowStep; rw [if_neg HU0.out, if_pos (.inl rfl)])
          go_wp2_with fail
          go_big_quiet (fail)
          go_wp2_with fail
          go_big_quiet (fail)
          go_wp2_with fail
          go_roundw
          case rel => exact ⟨k + 1, _, _, _, by go_num, rfl, rfl, by omega, HS, rfl⟩
          case measure => simp [intOf] <;> omega
        | true =>
          by_cases hbest : s < f4 + f6
          · have HS := Lib.hid (show (l.take (k + 1)).foldl (lowStep sides) (0, false) = (f4 + f6, true) by rw [HST.out, HF.out]; unfold lowStep; rw [if_neg HU0.out, if_pos (.inr hbest)])
            go_wp2_with fail
            go_big_quiet (fail)
            go_wp2_with fail
            go_big_quiet (fail)
            go_wp2_with fail
            go_roundw
            case rel => exact ⟨k + 1, _, _, _, by go_num, rfl, rfl, by omega, HS, rfl⟩
            case measure => simp [intOf] <;> omega
          · have hbest2 : f4 + f6 ≤ s := by omega
            have hbd : decide (s < f4 + f6) = false := decide_eq_false hbest
            have HS := Lib.hid (show (l.take (k + 1)).foldl (lowStep sides) (0, false) = (s, true) by rw [HST.out, HF.out]; unfold lowStep; rw [if_neg HU0.out, if_neg (by simp; omega)])
            go_wp2_with fail
            go_big_quiet (fail)
            go_wp2_with fail
            go_roundw
            case rel => exact ⟨k + 1, _, _, _, by go_num, rfl, rfl, by omega, HS, rfl⟩
            case measure => simp [intOf] <;> omega
    · have hge : (n : Int) ≤ (k : Int) := by omega
      have HE := Lib.hid (show (s, fl) = (p, ok) by rw [← HV.out, ← HF.out, List.take_of_length_le (by have := HL.out; omega)]; rfl)
      go_wp2_with fail
      go_ret2
      exact ⟨ret_pair HE.out, below_drewN (Below.refl _ _) m⟩
theorem ret_i32 {a b : Int} (h : a = b) : Ending.returned (.int .i32 a) = Ending.returned (.int .i32 b) := by rw [h]
theorem size_to {s : ByteArray} {k n : Nat} (hn : sizeB s k = n) (w : World) (hk : k ≤ 800000) (hs : s.size ≤ 800000) : Calls Try.prog 29 #[.string s, .int .i64 k] w fun e w' => e = .returned (.int .i64 (n : Int)) ∧ w = w' := by
  subst hn; exact size_any s k w hk hs
set_option maxRecDepth 100000 in
theorem rune_any (s : ByteArray) (k n : Nat) (w : World) (h1 : 1 ≤ n) (h4 : n ≤ 4) (hin : k + n ≤ s.size) (hs : s.size ≤ 800000) : Calls Try.prog 31 #[.string s, .int .i64 k, .int .i64 n] w fun e w' => e = .returned (.int .i32 (runeB s k n)) ∧ Below w.heap.size w w' := by
  have hk : k < s.size := by omega
  have hb := bAt_get s k hk
  have hbd := bAt_bd s k
  have hk2 : (k : Int) < (s.size : Int) := by omega
  by_cases hn1 : n = 1
  · subst hn1
    have HR := Lib.hid (show runeB s k 1 = bAt s k from if_pos rfl)
    have o1 : IntKind.i32.wrap (bAt s k) = bAt s k := by rw [IntKind.wrap_i32]; omega
    go_enter Try.func31, Try.ntmps31
    go_wp2
    go_ret
    exact ⟨ret_i32 HR.out.symm, Below.refl _ _⟩
  · have hnn : ((n : Int) == 1) = false := by simp; omega
    have HR := Lib.hid (show runeB s k n = runeP s k (firstB n) n from if_neg hn1)
    have hcell : (#[Value.int .i64 0, .int .i64 0, .int .i64 192, .int .i64 224, .int .i64 240] : Array Value)[n]? = some (.int .i64 (firstB n)) := by
      rcases (show n = 2 ∨ n = 3 ∨ n = 4 by omega) with rfl | rfl | rfl <;> rfl
    have hfb : 0 ≤ firstB n ∧ firstB n ≤ 240 := by unfold firstB; split <;> (try split) <;> (try split) <;> omega
    have hBd := fun j hj => runeP_bd s k (base := firstB n) (by omega) j hj
    have HBd := Lib.hid hBd
    have hfirst : runeP s k (firstB n) 1 = bAt s k - firstB n := rfl
    have HP1 := Lib.hid hfirst
    clear hfirst
    have hBx : Box (w.alloc (.cells #[.int .i64 0, .int .i64 0, .int .i64 192, .int .i64 224, .int .i64 240] 3)) w.heap.size [.int .i64 0, .int .i64 0, .int .i64 192, .int .i64 224, .int .i64 240] := Box.new _ _ _
    have hc := hBx.2.2 n (.int .i64 (firstB n)) (by simpa using hcell)
    clear hBd hcell
    go_enter Try.func31, Try.ntmps31
    go_wp2_with fail
    have hB0 : Below w.heap.size w (w.alloc (.cells #[.int .i64 0, .int .i64 0, .int .i64 192, .int .i64 224, .int .i64 240] 3)) := by go_grown
    clear hBx
    generalize w.alloc (.cells #[.int .i64 0, .int .i64 0, .int .i64 192, .int .i64 224, .int .i64 240] 3) = W at hc hB0 ⊢
    have HB0 := Lib.hid hB0
    have hn5 : (n : Int) < 5 := by omega
    have hn0 : (0 : Int) ≤ (n : Int) := by omega
    clear hB0
    go_quiet (fail)
    clear hb
    go_wp2_with fail
    go_loopw [8, 9] (fun v i wr => ∃ j m : Nat, 1 ≤ j ∧ j ≤ n ∧ i = .int .i64 j ∧ v = .int .i64 (runeP s k (firstB n) j) ∧ wr = W.drewN m) (fun _ i _ => n - (intOf i).toNat)
    case atStart => exact ⟨1, _, by omega, by omega, rfl, by rw [HP1.out], rfl⟩
    case round =>
      obtain ⟨j, m, hj1, hj, rfl, rfl, rfl⟩ := hrel
      obtain ⟨hp1, hp2⟩ := HBd.out j (by omega)
      by_cases hlt : j < n
      · have hbj := bAt_get s (k + j) (by omega)
        have hbd2 := bAt_bd s (k + j)
        have HSu := Lib.hid (runeP_succ s k (firstB n) hj1)
        have hkj : (k : Int) + (j : Int) < (s.size : Int) := by omega
        have htn : ((k : Int) + (j : Int)).toNat = k + j := by omega
        go_wp2_with fail
        go_roundw
        case rel => exact ⟨j + 1, _, by omega, by omega, by go_num, by rw [HSu.out], rfl⟩
        case measure => simp [intOf]; omega
      · obtain rfl : j = n := by omega
        have o1 : IntKind.i32.wrap (runeP s k (firstB j) j) = runeP s k (firstB j) j := by rw [IntKind.wrap_i32]; omega
        go_wp2_with fail
        go_ret
        exact ⟨ret_i32 HR.out.symm, below_drewN HB0.out m⟩
theorem rnone_any (a b : Int) (w : World) : Calls Try.prog 62 #[.agg #[.int .i64 a, .int .i64 b]] w fun e w' => e = .returned (.bool (decide (b ≤ a))) ∧ Below w.heap.size w w' := by
  go_enter Try.func62, Try.ntmps62
  go_wp2_with fail
  go_ret
  exact ⟨rfl, by go_grown⟩
theorem rlen_to {a b v : Int} (hv : lenW a b = v) (ha : NearY a) (hb : NearY b) (w : World) : Calls Try.prog 52 #[.agg #[.int .i64 a, .int .i64 b]] w fun e w' => e = .returned (.int .i64 v) ∧ Below w.heap.size w w' := by
  obtain ⟨a1, a2⟩ := ha
  obtain ⟨b1, b2⟩ := hb
  unfold farB at a1 a2 b1 b2
  have hw : IntKind.i64.wrap (b - a) = b - a := IntWalk.i64_in _ (by omega)
  have HX := Lib.hid (Box.new2 w (.int .i64 a) (.int .i64 b) 84)
  unfold lenW at hv
  by_cases h : b ≤ a
  · rw [if_pos h] at hv
    have HV := Lib.hid hv
    clear hv
    go_enter Try.func52, Try.ntmps52
    go_wp2_with fail
    refine (rnone_any _ _ _).mono ?_
    rintro e w1 ⟨rfl, hb⟩
    have HB := Lib.hid (below_then (show Below w.heap.size w _ by go_grown) hb)
    clear hb
    go_wp2_with fail
    go_ret
    exact ⟨ret_int HV.out, HB.out⟩
  · rw [if_neg h] at hv
    have HV := Lib.hid hv
    have h2 : a < b := by omega
    clear hv
    go_enter Try.func52, Try.ntmps52
    go_wp2_with fail
    refine (rnone_any _ _ _).mono ?_
    rintro e w1 ⟨rfl, hb⟩
    have HB := Lib.hid (below_then (show Below w.heap.size w _ by go_grown) hb)
    obtain ⟨c0, c1, _, _, _⟩ := (HX.out.below hb).of2
    clear hb
    go_wp2_with fail
    go_ret
    exact ⟨ret_int HV.out, HB.out⟩
def lettersZ : ByteArray := ⟨#[109, 110, 112, 113, 105, 111, 119, 104, 66, 65, 73, 99]⟩
def bytesI (t : ByteArray) : List Int := (List.range t.size).map (bAt t)
theorem mem_bytesI {t : ByteArray} {c : Int} : c ∈ bytesI t ↔ ∃ j, j < t.size ∧ bAt t j = c := by unfold bytesI; simp
theorem letters_at : ∀ k, k < 12 → bAt lettersZ k ∈ lettersB := by decide +kernel
theorem letters_all : ∀ c ∈ lettersB, ∃ k, k < 12 ∧ bAt lettersZ k = c := by decide +kernel
theorem letterB_found {l : List Tok} {i : Nat} {told : List Int} {c : Int} (hc : c ∈ lettersB) (h : sgB l i c = true) : letterB l i told = if c ∈ told then 0 else c := by
  have hf : lettersB.find? (sgB l i) = some c := by
    rcases hq : lettersB.find? (sgB l i) with _ | d
    · have := List.find?_eq_none.1 hq c hc
      exact absurd h this
    · have := List.find?_some hq
      by_cases e : d = c
      · rw [e]
      · exact (sg_clash this h e).elim
  unfold letterB
  rw [hf]
theorem letterB_none {l : List Tok} {i : Nat} {told : List Int} (h : ∀ c ∈ lettersB, sgB l i c = false) : letterB l i told = 0 := by
  have hf : lettersB.find? (sgB l i) = none := List.find?_eq_none.2 (fun c hc => by rw [h c hc]; simp)
  unfold letterB
  rw [hf]
theorem rletters_to {z : ByteArray} (hz : lettersZ = z) (w : World) : Calls Try.prog 64 #[] w fun e w' => e = .returned (.string z) ∧ w = w' := by
  subst hz; exact rletters_any w
theorem rsign_to {toks : List Tok} {A : Option Addr} {n c' : Nat} {i : Nat} {c : Int} {v : Bool} (hv : sgB toks i c = v) (w : World) (hR : Rows 4 encT w A n toks) (hi : i ≤ 10000000) : Calls Try.prog 32 #[.slice A n c', .int .i64 i, .int .i32 c] w fun e w' => e = .returned (.bool v) ∧ w = w' := by
  subst hv; exact rsign_any toks A n c' i c w hR hi
theorem rletter_any (toks : List Tok) (A : Option Addr) (n c' : Nat) (i : Nat) (told : ByteArray) (w : World) (hR : Rows 4 encT w A n toks) (hi : i ≤ 1000000) (ht : told.size ≤ 2000000) :
    Calls Try.prog 54 #[.slice A n c', .int .i64 i, .string told] w fun e w' => e = .returned (.int .u8 (letterB toks i (bytesI told))) ∧ Below w.heap.size w w' := by
  have HR := Lib.hid hR
  clear hR
  obtain ⟨z, hz⟩ : ∃ z, lettersZ = z := ⟨_, rfl⟩
  have hzs : z.size = 12 := by rw [← hz]; rfl
  have HZ := Lib.hid hz
  have HL := Lib.hid (show ∀ k, k < 12 → bAt z k ∈ lettersB from hz ▸ letters_at)
  have HA := Lib.hid (show ∀ c ∈ lettersB, ∃ k, k < 12 ∧ bAt z k = c from hz ▸ letters_all)
  clear hz
  go_enter Try.func54, Try.ntmps54
  go_wp2_with (go_at_call 64; refine (rletters_to HZ.out _).mono ?_; rintro e w' ⟨rfl, rfl⟩)
  go_loopw [8, 9] (fun v u wr => ∃ k : Nat, k ≤ 12 ∧ v = .int .i64 k ∧ (∀ j, j < k → sgB toks i (bAt z j) = false) ∧ wr = w) (fun v _ _ => 12 - (intOf v).toNat)
  case atStart => exact ⟨0, by omega, rfl, fun j hj => by omega, rfl⟩
  case round =>
    obtain ⟨k, hk, rfl, hno, rfl⟩ := hrel
    have HN := Lib.hid hno
    clear hno
    by_cases hlt : k < 12
    · have hkz : k < z.size := by omega
      have hk2 : (k : Int) < (z.size : Int) := by omega
      have hb0 := bAt_get z k hkz
      have hbd := bAt_bd z k
      obtain ⟨c, hc⟩ : ∃ c, bAt z k = c := ⟨_, rfl⟩
      rw [hc] at hb0 hbd
      have HC := Lib.hid hc
      have o1 : IntKind.i32.wrap c = c := by rw [IntKind.wrap_i32]; omega
      clear hc
      rcases hs : sgB toks i c with _ | _
      · have HS := Lib.hid hs
        clear hs
        go_wp2_with (go_at_call 32; refine (rsign_to HS.out _ HR.out (by omega)).mono ?_; rintro e w' ⟨rfl, rfl⟩)
        go_roundw
        case rel => exact ⟨k + 1, by omega, by go_num, fun j hj => by
          by_cases e : j = k
          · subst e; rw [HC.out]; exact HS.out
          · exact HN.out j (by omega), by first | rfl | trivial⟩
        case measure => simp [intOf]; omega
      · have HS := Lib.hid hs
        have hcl : c ∈ lettersB := by rw [← HC.out]; exact HL.out k hlt
        have hv := letterB_found (told := bytesI told) hcl hs
        have HV := Lib.hid hv
        clear hs hv
        go_wp2_with (go_at_call 32; refine (rsign_to HS.out _ HR.out (by omega)).mono ?_; rintro e w' ⟨rfl, rfl⟩)
        obtain ⟨wo, rfl⟩ : ∃ wo : World, wo = wr := ⟨_, rfl⟩
        go_loopw [9] (fun u wr => ∃ k2 m : Nat, k2 ≤ told.size ∧ u = .int .i64 k2 ∧ (∀ j, j < k2 → bAt told j ≠ c) ∧ wr = wo.drewN m) (fun u _ => told.size - (intOf u).toNat)
        case atStart => exact ⟨0, 0, by omega, rfl, fun j hj => by omega, rfl⟩
        case round =>
          obtain ⟨k2, m, hk2', rfl, hno, rfl⟩ := hrel
          have HN2 := Lib.hid hno
          clear hno
          by_cases hlt2 : k2 < told.size
          · have hd0 := bAt_get told k2 hlt2
            have hk3 : (k2 : Int) < (told.size : Int) := by omega
            obtain ⟨d, hd⟩ : ∃ d, bAt told k2 = d := ⟨_, rfl⟩
            rw [hd] at hd0
            have HD := Lib.hid hd
            clear hd
            by_cases hdc : d = c
            · have HR0 := Lib.hid (show letterB toks i (bytesI told) = 0 by rw [HV.out, if_pos (mem_bytesI.2 ⟨k2, hlt2, by rw [HD.out, hdc]⟩)])
              subst hdc
              go_wp2_with fail
              go_quiet (fail)
              go_wp2_with fail
              go_ret
              exact ⟨by rw [HR0.out]; rfl, below_drewN (below_drewN (Below.refl _ _) _) _⟩
            · have hdc2 : (d == c) = false := by simp [hdc]
              go_wp2_with fail
              go_quiet (fail)
              go_wp2_with fail
              go_roundw
              case rel => exact ⟨k2 + 1, _, by omega, by go_num, fun j hj => by
                by_cases e : j = k2
                · subst e; rw [HD.out]; exact hdc
                · exact HN2.out j (by omega), rfl⟩
              case measure => simp [intOf]; omega
          · have HR0 := Lib.hid (show letterB toks i (bytesI told) = c by rw [HV.out, if_neg (by rw [mem_bytesI]; rintro ⟨j, hj, e⟩; exact HN2.out j (by omega) e)])
            have hk3 : (told.size : Int) ≤ (k2 : Int) := by omega
            go_wp2_with fail
            go_ret
            exact ⟨by rw [HR0.out]; rfl, below_drewN (Below.refl _ _) _⟩
    · obtain rfl : k = 12 := by omega
      have hv : letterB toks i (bytesI told) = 0 := letterB_none (fun c hc => by
        obtain ⟨k, hk1, hk2⟩ := HA.out c hc
        rw [← hk2]; exact HN.out k hk1)
      have HV := Lib.hid hv
      clear hv
      go_wp2_with fail
      go_ret
      exact ⟨by rw [HV.out]; rfl, Below.refl _ _⟩
theorem parentI_none {L : List Nd} {b : Nat} (hb : b < L.length) (h : parentP L b = none) : parentI L (b : Int) = -1 := by rw [parentI_nat hb, h]
theorem parentI_some {L : List Nd} {b p : Nat} (hb : b < L.length) (h : parentP L b = some p) : parentI L (b : Int) = (p : Int) := by rw [parentI_nat hb, h]
set_option maxHeartbeats 4000000 in
set_option maxRecDepth 100000 in
theorem vroom_all {L : List Nd} (hd : IsDoc L) {W : Int} (hw1 : 1 ≤ W) (hw2 : W ≤ maxX) {A : Option Addr} {n c : Nat} (hn2 : n ≤ 100000) : ∀ (b : Nat) (x y : Int), roomP L W b = (x, y) → b < n → ∀ (w : World), Sees w A n L →
    Calls Try.prog 35 #[.slice A n c, .int .i64 (b : Int), .int .i64 W] w fun e w' => e = .returned (.agg #[.int .i64 x, .int .i64 y]) ∧ Below w.heap.size w w' := by
  have hnest := hd.2.nested
  intro b
  induction b using Nat.strongRecOn with
  | _ b ih =>
  intro x y hr hbn w h
  have hl := h.len
  have HA := Lib.hid h
  have HW2 := Lib.hid hw2
  cases hp : parentP L b with
  | none =>
    have HP := Lib.hid (parentI_none (by omega) hp)
    rw [room_top hp] at hr
    injection hr with h1 h2
    subst h1 h2
    clear ih h hp hl hw2
    go_enter Try.func35, Try.ntmps35
    go_wp2_with fail
    refine (vparent_to hnest (by omega) HP.out (HA.out.below (show Below w.heap.size w _ by go_grown)) hn2).mono ?_
    rintro e w1 ⟨rfl, hb⟩
    have hX : Box w1 w.heap.size [.int .i64 0, .int .i64 0] := (box_new w _ _ _ rfl _ rfl).below hb
    obtain ⟨a0, a1, a2, a3, a4⟩ := hX.of2
    have HB := Lib.hid (below_then (show Below w.heap.size w _ by go_grown) hb)
    have HX := Lib.hid hX
    clear hb hX
    go_wp2_with fail
    have hY := (HX.out.set 0 (.int .i64 0) (by simp)).set 1 (.int .i64 W) (by simp)
    have r0 := hY.2.2 0 _ rfl
    have r1 := hY.2.2 1 _ rfl
    exact bodyPost_ret (v := .agg #[.int .i64 0, .int .i64 W]) (by simp [results, Try.results35, go_sem, r0, r1]) rfl ⟨rfl, (HB.out.setCell (by simp) _).setCell (by simp) _⟩
  | some p =>
    have hpl := (parent_lt hp).1
    have HP := Lib.hid (parentI_some (by omega) hp)
    have hin := inset_bd hd.1 p
    obtain ⟨⟨x', y'⟩, hrp⟩ : ∃ q, roomP L W p = q := ⟨_, rfl⟩
    have hbd := room_bd hd.1 hw1 hw2 p
    rw [hrp] at hbd
    obtain ⟨q1, q2, q3, q4⟩ := hbd
    simp only at q1 q2 q3 q4
    rw [room_step hp, hrp] at hr
    injection hr with h1 h2
    have HI := Lib.hid (fun v hv => ih p hpl x' y' hrp (by omega) v hv)
    obtain ⟨b1, o1, m1, x1, rfl, hb1, e1, r1, s1⟩ := h.at_ (show p < n by omega)
    have hins : insetAt L p = m1.sty.inset := by unfold insetAt; rw [e1]; show x1.sty.inset = _; rw [s1.1.2.2.1]
    have R1 := Lib.hid (show ∀ v, On w v → v.cell? ⟨b1, o1 + p * 20 + 2 + 4, none⟩ = some (.int .i64 m1.sty.inset) from fun v hv => range_on r1 v hv 6 _ rfl)
    rw [hins] at hin h1 h2
    obtain ⟨i, hi⟩ : ∃ i, m1.sty.inset = i := ⟨_, rfl⟩
    rw [hi] at hin h1 h2 R1
    obtain ⟨i0, i1⟩ := hin
    simp only at h1 h2
    have q5 : y' ≤ 1099511627776 := Int.le_trans q4 hw2
    unfold maxX at q2 i1 h1
    have HX1 := Lib.hid h1
    have HX2 := Lib.hid h2
    have hpn : (p : Int) < (n : Int) := by omega
    have hpb : ¬ ((p : Int) < 0) := by omega
    clear ih h hp hl hw2 hrp h1 h2 r1 s1 e1 hins hi HW2 q4 hw1
    go_enter Try.func35, Try.ntmps35
    go_wp2_with fail
    refine (vparent_to hnest (by omega) HP.out (HA.out.below (show Below w.heap.size w _ by go_grown)) hn2).mono ?_
    rintro e w1 ⟨rfl, hb⟩
    have HB := Lib.hid (below_then (show Below w.heap.size w _ by go_grown) hb)
    have HX := Lib.hid (show Box w1 w.heap.size [.int .i64 0, .int .i64 0] from (box_new w _ _ _ rfl _ rfl).below hb)
    clear hb
    go_wp2_with fail
    refine (HI.out _ (HA.out.below HB.out)).mono ?_
    rintro e w2 ⟨rfl, hb⟩
    have HB2 := Lib.hid (below_then HB.out hb)
    have HXX := Lib.hid (HX.out.below hb)
    have g1 := R1.out w2 HB2.out
    clear hb
    have hlt : w.heap.size < w2.heap.size := HXX.out.lt
    have hne : ¬ w.heap.size = w2.heap.size := by omega
    obtain ⟨a0, a1, a2, a3, a4⟩ := HXX.out.of2
    have g2 := R1.out _ (HB2.out.alloc (by omega) (.cells #[.int .i64 x', .int .i64 y'] 81))
    have hy0 : 0 ≤ y' := by omega
    clear g1
    go_wp2_with fail
    have hmx := HX1.out
    have hmy := HX2.out
    have hY := ((HXX.out.set 0 (.int .i64 (min (x' + i) 1099511627776)) (by simp)).set 1 (.int .i64 (max (y' - i - i) 1)) (by simp)).alloc (.cells #[.int .i64 x', .int .i64 y'] 81)
    have r0 := hY.2.2 0 _ rfl
    have r1 := hY.2.2 1 _ rfl
    exact bodyPost_ret (v := .agg #[.int .i64 x, .int .i64 y]) (by rw [← hmx, ← hmy]; simp [results, Try.results35, go_sem, r0, r1]) rfl ⟨rfl, ((HB2.out.setCell (by simp) _).setCell (by simp) _).alloc (by simp; omega) _⟩
theorem vroom_to {L : List Nd} (hd : IsDoc L) {W : Int} (hw1 : 1 ≤ W) (hw2 : W ≤ maxX) {A : Option Addr} {n c b : Nat} (hn2 : n ≤ 100000) (hbn : b < n) {w : World} (h : Sees w A n L) :
    Calls Try.prog 35 #[.slice A n c, .int .i64 (b : Int), .int .i64 W] w fun e w' => e = .returned (.agg #[.int .i64 (roomP L W b).1, .int .i64 (roomP L W b).2]) ∧ Below w.heap.size w w' :=
  vroom_all hd hw1 hw2 hn2 b _ _ rfl hbn w h
theorem ret_room {p q t p' q' t' : Int} (h : (p, q, t) = (p', q', t')) : Ending.returned (.tuple #[.agg #[.int .i64 p, .int .i64 q], .int .i64 t]) = .returned (.tuple #[.agg #[.int .i64 p', .int .i64 q'], .int .i64 t']) := by
  injection h with h1 h2; injection h2 with h2 h3; rw [h1, h2, h3]
set_option maxHeartbeats 4000000 in
theorem rroom_in {l : List Fl} {h u a b : Int} (hn : ∀ f ∈ l, f.near) (hh : NearI h) (ha : NearI a) (hb : NearI b) {A : Option Addr} {n c : Nat} : ∀ (k : Nat) (y t p q : Int) (w : World), cntA l y ≤ k → NearY y → seekE l h u a b y = t → bandL l t h (a, b) = (p, q) → Rows 7 encFl w A n l →
    Calls Try.prog 41 #[.slice A n c, .int .i64 u, .int .i64 h, .int .i64 y, .agg #[.int .i64 a, .int .i64 b]] w fun e w' => e = .returned (.tuple #[.agg #[.int .i64 p, .int .i64 q], .int .i64 t]) ∧ Below w.heap.size w w' := by
  intro k
  induction k with
  | zero =>
    intro y t p q w hk hy ht hp hA
    obtain ⟨⟨p1, q1⟩, hb1⟩ : ∃ r, bandL l y h (a, b) = r := ⟨_, rfl⟩
    obtain ⟨⟨nx, ok⟩, hnx⟩ : ∃ r, nextL l y h a b = r := ⟨_, rfl⟩
    have hok : ok = false := by
      cases hv : ok with
      | false => rfl
      | true =>
        have hx : (nextL l y h a b).2 = true := by rw [hnx, hv]
        have := cnt_next hx
        omega
    subst hok
    have hty : t = y := by
      rw [← ht]
      by_cases hf : fitsF l h u a b y = true
      · exact seekE_fits hf
      · exact seekE_none (by simpa using hf) (by rw [hnx])
    subst hty
    have HE := Lib.hid (show (p1, q1) = (p, q) from hb1.symm.trans hp)
    have HN := Lib.hid hn
    have HY := Lib.hid hy
    have HH := Lib.hid hh
    have HA := Lib.hid hA
    have H1 := Lib.hid hb1
    have H2 := Lib.hid hnx
    clear hb1 hnx ht hp hn hy hh ha hb hA hk
    go_enter Try.func41, Try.ntmps41
    go_wp2_with fail
    generalize hW : World.alloc (World.alloc w _) _ = W
    have HI := Lib.hid (show Box W w.heap.size [.int .i64 a, .int .i64 b] by rw [← hW]; exact (Box.new2 _ _ _ _).alloc _)
    have HR := Lib.hid (show Box W (w.heap.size + 1) [.int .i64 0, .int .i64 0] by rw [← hW]; exact Box.new2' _ _ _ _ _ (by simp))
    have HB := Lib.hid (show Below w.heap.size w W by rw [← hW]; go_grown)
    clear hW
    refine (rof10_to H1.out HN.out HY.out HH.out (HA.out.below HB.out)).mono ?_
    rintro e w1 ⟨rfl, hb⟩
    have HI1 := Lib.hid (HI.out.below hb)
    have HR1 := Lib.hid (HR.out.below hb)
    have HB1 := Lib.hid (below_then HB.out hb)
    clear hb HI HR HB
    obtain ⟨i0, i1, _, _, i4⟩ := HI1.out.of2
    go_wp2_with fail
    generalize hW : World.alloc w1 _ = W
    have hal : Below w1.heap.size w1 W := by rw [← hW]; exact (Below.refl _ _).alloc (Nat.le_refl _) _
    have HD := Lib.hid (show Box W w1.heap.size [.int .i64 p1, .int .i64 q1] by rw [← hW]; exact Box.new2 _ _ _ _)
    have HR := Lib.hid (HR1.out.below hal)
    have HI := Lib.hid (HI1.out.below hal)
    have HB := Lib.hid (below_then HB1.out hal)
    clear hW hal HI1 HR1 HB1 i0 i1 i4
    refine (rnext_to H2.out HN.out HY.out HH.out (HA.out.below HB.out)).mono ?_
    rintro e w2 ⟨rfl, hb⟩
    have HI1 := Lib.hid (HI.out.below hb)
    have HR1 := Lib.hid (HR.out.below hb)
    have HD1 := Lib.hid (HD.out.below hb)
    have HB1 := Lib.hid (below_then HB.out hb)
    clear hb HI HR HB HD
    obtain ⟨d0, d1, _, _, d4⟩ := HD1.out.of2
    obtain ⟨r0, r1, f0, f1, r4⟩ := HR1.out.of2
    go_wp2_with fail
    have hY := (HR1.out.set 0 (.int .i64 p1) (by simp)).set 1 (.int .i64 q1) (by simp)
    have s0 := hY.2.2 0 _ rfl
    have s1 := hY.2.2 1 _ rfl
    exact bodyPost_ret (v := .tuple #[.agg #[.int .i64 p1, .int .i64 q1], .int .i64 t]) (by simp [results, Try.results41, go_sem, s0, s1]) rfl ⟨ret_room (by have := HE.out; injection this with e1 e2; rw [e1, e2]), (HB1.out.setCell (by simp) _).setCell (by simp) _⟩
  | succ k ih =>
    intro y t p q w hk hy ht hp hA
    obtain ⟨⟨p1, q1⟩, hb1⟩ : ∃ r, bandL l y h (a, b) = r := ⟨_, rfl⟩
    obtain ⟨⟨nx, ok⟩, hnx⟩ : ∃ r, nextL l y h a b = r := ⟨_, rfl⟩
    obtain ⟨v, hv⟩ : ∃ v, lenW p1 q1 = v := ⟨_, rfl⟩
    have hfz : fitsF l h u a b y = decide (u ≤ v) := by unfold fitsF; rw [hb1]; simp only; rw [hv]
    have hbd := bandL_bd hn y h (a, b) ⟨ha.y, hb.y⟩
    rw [hb1] at hbd
    have HBD := Lib.hid hbd
    have HHV := Lib.hid hv
    have HFZ := Lib.hid hfz
    have HT := Lib.hid ht
    have HP := Lib.hid hp
    have HK := Lib.hid hk
    have HN := Lib.hid hn
    have HY := Lib.hid hy
    have HH := Lib.hid hh
    have HA := Lib.hid hA
    have H1 := Lib.hid hb1
    have H2 := Lib.hid hnx
    clear hb1 hnx ht hp hn hy hh ha hb hA hk hfz hv hbd
    go_enter Try.func41, Try.ntmps41
    go_wp2_with fail
    generalize hW : World.alloc (World.alloc w _) _ = W
    have HI := Lib.hid (show Box W w.heap.size [.int .i64 a, .int .i64 b] by rw [← hW]; exact (Box.new2 _ _ _ _).alloc _)
    have HR := Lib.hid (show Box W (w.heap.size + 1) [.int .i64 0, .int .i64 0] by rw [← hW]; exact Box.new2' _ _ _ _ _ (by simp))
    have HB := Lib.hid (show Below w.heap.size w W by rw [← hW]; go_grown)
    clear hW
    refine (rof10_to H1.out HN.out HY.out HH.out (HA.out.below HB.out)).mono ?_
    rintro e w1 ⟨rfl, hb⟩
    have HI1 := Lib.hid (HI.out.below hb)
    have HR1 := Lib.hid (HR.out.below hb)
    have HB1 := Lib.hid (below_then HB.out hb)
    clear hb HI HR HB
    obtain ⟨i0, i1, _, _, i4⟩ := HI1.out.of2
    go_wp2_with fail
    generalize hW : World.alloc w1 _ = W
    have hal : Below w1.heap.size w1 W := by rw [← hW]; exact (Below.refl _ _).alloc (Nat.le_refl _) _
    have HD := Lib.hid (show Box W w1.heap.size [.int .i64 p1, .int .i64 q1] by rw [← hW]; exact Box.new2 _ _ _ _)
    have HR := Lib.hid (HR1.out.below hal)
    have HI := Lib.hid (HI1.out.below hal)
    have HB := Lib.hid (below_then HB1.out hal)
    clear hW hal HI1 HR1 HB1 i0 i1 i4
    refine (rnext_to H2.out HN.out HY.out HH.out (HA.out.below HB.out)).mono ?_
    rintro e w2 ⟨rfl, hb⟩
    have HI1 := Lib.hid (HI.out.below hb)
    have HR1 := Lib.hid (HR.out.below hb)
    have HD1 := Lib.hid (HD.out.below hb)
    have HB1 := Lib.hid (below_then HB.out hb)
    clear hb HI HR HB HD
    obtain ⟨d0, d1, _, _, d4⟩ := HD1.out.of2
    obtain ⟨r0, r1, f0, f1, r4⟩ := HR1.out.of2
    cases ok with
    | false =>
      have HE := Lib.hid (show (p1, q1, y) = (p, q, t) by
        have hty : y = t := by
          rw [← HT.out]
          by_cases hf : fitsF l h u a b y = true
          · exact (seekE_fits hf).symm
          · exact (seekE_none (by simpa using hf) (by rw [H2.out])).symm
        have := H1.out
        rw [hty, HP.out] at this
        injection this with e1 e2
        rw [e1, e2, hty])
      go_wp2_with fail
      have hY := (HR1.out.set 0 (.int .i64 p1) (by simp)).set 1 (.int .i64 q1) (by simp)
      have s0 := hY.2.2 0 _ rfl
      have s1 := hY.2.2 1 _ rfl
      exact bodyPost_ret (v := .tuple #[.agg #[.int .i64 p1, .int .i64 q1], .int .i64 y]) (by simp [results, Try.results41, go_sem, s0, s1]) rfl ⟨ret_room HE.out, (HB1.out.setCell (by simp) _).setCell (by simp) _⟩
    | true =>
      by_cases hu : u ≤ v
      · have HE := Lib.hid (show (p1, q1, y) = (p, q, t) by
          have hty : y = t := by
            rw [← HT.out]
            exact (seekE_fits (by rw [HFZ.out]; exact decide_eq_true hu)).symm
          have := H1.out
          rw [hty, HP.out] at this
          injection this with e1 e2
          rw [e1, e2, hty])
        go_wp2_with fail
        refine (rlen_to HHV.out HBD.out.1 HBD.out.2 _).mono ?_
        rintro e w3 ⟨rfl, hb⟩
        have HR2 := Lib.hid (HR1.out.below hb)
        have HD2 := Lib.hid (HD1.out.below hb)
        have HB2 := Lib.hid (below_then HB1.out hb)
        clear hb HI1 HR1 HD1 HB1 d0 d1 d4 r0 r1 f0 f1 r4
        obtain ⟨d0, d1, _, _, d4⟩ := HD2.out.of2
        obtain ⟨r0, r1, f0, f1, r4⟩ := HR2.out.of2
        go_wp2_with fail
        have hY := (HR2.out.set 0 (.int .i64 p1) (by simp)).set 1 (.int .i64 q1) (by simp)
        have s0 := hY.2.2 0 _ rfl
        have s1 := hY.2.2 1 _ rfl
        exact bodyPost_ret (v := .tuple #[.agg #[.int .i64 p1, .int .i64 q1], .int .i64 y]) (by simp [results, Try.results41, go_sem, s0, s1]) rfl ⟨ret_room HE.out, (HB2.out.setCell (by simp) _).setCell (by simp) _⟩
      · have hu2 : v < u := by omega
        have HS := Lib.hid (show seekE l h u a b nx = t by
          have := seekE_next (l := l) (h := h) (w := u) (a := a) (b := b) (y := y) (by rw [HFZ.out]; exact decide_eq_false hu) (by rw [H2.out])
          rw [H2.out] at this
          rw [← this]; exact HT.out)
        have HC := Lib.hid (show cntA l nx ≤ k by
          have := cnt_next (l := l) (y := y) (h := h) (a := a) (b := b) (by rw [H2.out])
          rw [H2.out] at this
          have := HK.out
          simp only at *
          omega)
        have HNY := Lib.hid (show NearY nx by have := nextL_bd HN.out y h a b; rw [H2.out] at this; exact this)
        clear hu
        go_wp2_with fail
        refine (rlen_to HHV.out HBD.out.1 HBD.out.2 _).mono ?_
        rintro e w3 ⟨rfl, hb⟩
        have HR2 := Lib.hid (HR1.out.below hb)
        have HI2 := Lib.hid (HI1.out.below hb)
        have HB2 := Lib.hid (below_then HB1.out hb)
        clear hb HI1 HR1 HD1 HB1 d0 d1 d4 r0 r1 f0 f1 r4
        obtain ⟨d0, d1, _, _, d4⟩ := HI2.out.of2
        go_wp2_with fail
        refine (ih nx t p q _ HC.out HNY.out HS.out HP.out (HA.out.below HB2.out)).mono ?_
        rintro e w4 ⟨rfl, hb⟩
        have HR3 := Lib.hid (HR2.out.below hb)
        have HB3 := Lib.hid (below_then HB2.out hb)
        clear hb HR2 HI2 HB2 d0 d1 d4
        obtain ⟨r0, r1, f0, f1, r4⟩ := HR3.out.of2
        go_wp2_with fail
        have hY := (HR3.out.set 0 (.int .i64 p) (by simp)).set 1 (.int .i64 q) (by simp)
        have s0 := hY.2.2 0 _ rfl
        have s1 := hY.2.2 1 _ rfl
        exact bodyPost_ret (v := .tuple #[.agg #[.int .i64 p, .int .i64 q], .int .i64 t]) (by simp [results, Try.results41, go_sem, s0, s1]) rfl ⟨rfl, (HB3.out.setCell (by simp) _).setCell (by simp) _⟩
theorem rroom_to {l : List Fl} {h u a b y t p q : Int} (ht : seekE l h u a b y = t) (hp : bandL l t h (a, b) = (p, q)) (hn : ∀ f ∈ l, f.near) (hy : NearY y) (hh : NearI h) (ha : NearI a) (hb : NearI b) {A : Option Addr} {n c : Nat} {w : World} (hA : Rows 7 encFl w A n l) :
    Calls Try.prog 41 #[.slice A n c, .int .i64 u, .int .i64 h, .int .i64 y, .agg #[.int .i64 a, .int .i64 b]] w fun e w' => e = .returned (.tuple #[.agg #[.int .i64 p, .int .i64 q], .int .i64 t]) ∧ Below w.heap.size w w' :=
  rroom_in hn hh ha hb (cntA l y) y t p q w (Nat.le_refl _) hy ht hp hA
end Go.Proofs.Ytipmdhfinlkceaa
