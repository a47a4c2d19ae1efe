import Derived.Test.YtamakeogaipdiaaJA23
/- The program's package kin: Check, Held (with slices.BinarySearch over numbers). -/
namespace Go.Proofs.Ytamakeogaipdiaa
open Go.RowKit
set_option linter.unusedVariables false
set_option linter.unusedSimpArgs false
theorem cnan_to (a : Int) (w : World) : Calls Try.prog 62 #[.int .i64 a] w fun e w' => e = .returned (.bool false) ∧ w = w' := by
  have hq : (a != a) = false := by simp
  go_enter Try.func62, Try.ntmps62
  go_wp2_with fail
  go_ret
  exact ⟨rfl, rfl⟩
theorem snan_to (a : Int) (w : World) : Calls Try.prog 48 #[.int .i64 a] w fun e w' => e = .returned (.bool false) ∧ w = w' := by
  have hq : (a != a) = false := by simp
  go_enter Try.func48, Try.ntmps48
  go_wp2_with fail
  go_ret
  exact ⟨rfl, rfl⟩
theorem cless_to {a b : Int} {v : Bool} (hv : decide (a < b) = v) (w : World) : Calls Try.prog 47 #[.int .i64 a, .int .i64 b] w fun e w' => e = .returned (.bool v) ∧ w = w' := by
  have HV := Lib.hid hv
  clear hv
  go_enter Try.func47, Try.ntmps47
  go_wp2_with fail
  refine (cnan_to _ _).mono ?_
  rintro e w1 ⟨rfl, rfl⟩
  go_wp2_with fail
  go_ret
  exact ⟨ret_bool HV.out, rfl⟩
theorem cutI_same {of : List Int} (hr : ∀ (i j : Nat) (a b : Int), i ≤ j → of[i]? = some a → of[j]? = some b → a ≤ b) {x : Int} {i : Nat} (hi : i ≤ of.length) (h1 : ∀ (k : Nat) (y : Int), k < i → of[k]? = some y → y < x) (h2 : ∀ (k : Nat) (y : Int), i ≤ k → of[k]? = some y → x ≤ y) : cutI of x = i := by
  have hl := cutI_le of x
  rcases Nat.lt_trichotomy (cutI of x) i with h | h | h
  · exfalso
    have ha : of[cutI of x]? = some (of[cutI of x]'(by omega)) := List.getElem?_eq_getElem _
    have h3 := h1 _ _ h ha
    have := (cutI_lt hr x ha).2 h3
    omega
  · exact h
  · exfalso
    have ha : of[i]? = some (of[i]'(by omega)) := List.getElem?_eq_getElem _
    have h3 := h2 _ _ (Nat.le_refl _) ha
    have := (cutI_lt hr x ha).1 h
    omega
set_option maxHeartbeats 2000000 in
set_option maxRecDepth 100000 in
theorem kbs_to {of : List Int} (hr : ∀ (i j : Nat) (a b : Int), i ≤ j → of[i]? = some a → of[j]? = some b → a ≤ b) {x v : Int} (hv : (cutI of x : Int) = v) {B : Option Addr} {m d : Nat} {w : World} (hI : Ints w B m of) (hm : m ≤ 1000000) :
    Calls Try.prog 32 #[.slice B m d, .int .i64 x] w fun e w' => (∃ f : Bool, e = .returned (.tuple #[.int .i64 v, .bool f])) ∧ w = w' := by
  have HI := Lib.hid hI
  have HLO := Lib.hid hI.1
  have HR := Lib.hid hr
  have HV := Lib.hid hv
  clear hI hr hv
  go_enter Try.func32, Try.ntmps32
  go_wp2_with fail
  go_loopw [7, 8, 9] (fun a b h wr => ∃ i j : Nat, a = .int .i64 (i : Int) ∧ b = .int .i64 (j : Int) ∧ i ≤ j ∧ j ≤ m ∧ Hid (∀ (k : Nat) (y : Int), k < i → of[k]? = some y → y < x) ∧ Hid (∀ (k : Nat) (y : Int), j ≤ k → of[k]? = some y → x ≤ y) ∧ wr = w) (fun a b _ _ => (intOf b).toNat - (intOf a).toNat)
  case atStart => exact ⟨0, m, rfl, rfl, Nat.zero_le _, Nat.le_refl _, Lib.hid (fun k y hk => by omega), Lib.hid (fun k y hk hy => by have := (List.getElem?_eq_some_iff.1 hy).1; have := HLO.out; omega), rfl⟩
  case round =>
    obtain ⟨i, j, rfl, rfl, hij, hjm, HA, HD, rfl⟩ := hrel
    by_cases hlt : i < j
    · have hlt2 : (i : Int) < (j : Int) := by omega
      obtain ⟨q, hq⟩ : ∃ q : Nat, (i + j) / 2 = q := ⟨_, rfl⟩
      have hq1 : i ≤ q := by omega
      have hq2 : q < j := by omega
      obtain ⟨y, hy⟩ : ∃ y, of[q]? = some y := ⟨_, List.getElem?_eq_getElem (by have := HLO.out; omega)⟩
      obtain ⟨b1, o1, rfl, hb1, c9⟩ := HI.out.2.2 (by omega)
      have c1 := c9 q (by omega)
      rw [hy, Option.getD_some] at c1
      have HY := Lib.hid hy
      have HQ := Lib.hid hq
      have hq0 : (0 : Int) ≤ (q : Int) := by omega
      have hqm : (q : Int) < (m : Int) := by omega
      have hwq : IntKind.i64.wrap ((q : Int) + 1) = (q : Int) + 1 := IntWalk.i64_in _ (by omega)
      have hwi : IntKind.i64.wrap ((i : Int) + (j : Int)) = (i : Int) + (j : Int) := IntWalk.i64_in _ (by omega)
      have hdv : ((i : Int) + (j : Int)) / 2 = (q : Int) := by omega
      clear hy hq c9
      go_wp2_with fail
      rcases hv : decide (y < x) with _ | _
      · have HD1 := Lib.hid (show ∀ (k : Nat) (z : Int), q ≤ k → of[k]? = some z → x ≤ z from fun k z hk hz => by
          have h1 := HR.out q k y z hk HY.out hz
          have h2 := of_decide_eq_false hv
          omega)
        refine (cless_to hv _).mono ?_
        rintro e w1 ⟨rfl, rfl⟩
        clear hv
        go_wp2_with fail
        go_roundw
        case rel => exact ⟨i, q, rfl, rfl, hq1, by omega, HA, HD1, trivial⟩
        case measure => simp [intOf] <;> omega
      · have HA1 := Lib.hid (show ∀ (k : Nat) (z : Int), k < q + 1 → of[k]? = some z → z < x from fun k z hk hz => by
          have h1 := HR.out k q z y (by omega) hz HY.out
          have h2 := of_decide_eq_true hv
          omega)
        refine (cless_to hv _).mono ?_
        rintro e w1 ⟨rfl, rfl⟩
        clear hv
        go_wp2_with fail
        go_roundw
        case rel => exact ⟨q + 1, j, by go_num, rfl, by omega, hjm, HA1, HD, trivial⟩
        case measure => simp [intOf] <;> omega
    · obtain rfl : i = j := by omega
      have HE := Lib.hid (show (i : Int) = v by rw [← HV.out, cutI_same HR.out (by rw [HLO.out]; exact hjm) HA.out HD.out])
      have hle : (i : Int) ≤ (i : Int) := Int.le_refl _
      by_cases him : i < m
      · have him2 : (i : Int) < (m : Int) := by omega
        have hi0 : (0 : Int) ≤ (i : Int) := by omega
        obtain ⟨y, hy⟩ : ∃ y, of[i]? = some y := ⟨_, List.getElem?_eq_getElem (by have := HLO.out; omega)⟩
        obtain ⟨b1, o1, rfl, hb1, c9⟩ := HI.out.2.2 (by omega)
        have c1 := c9 i him
        rw [hy, Option.getD_some] at c1
        clear c9 hy
        by_cases hyx : y = x
        · subst hyx
          have hq : (y == y) = true := by simp
          go_wp2_with fail
          exact bodyPost_ret (v := .tuple #[.int .i64 (i : Int), .bool true]) (by simp [results, Try.results32, go_sem]) rfl ⟨⟨true, by rw [HE.out]⟩, rfl⟩
        · have hq : (y == x) = false := by simpa using hyx
          go_wp2_with fail
          refine (snan_to _ _).mono ?_
          rintro e w1 ⟨rfl, rfl⟩
          go_wp2_with fail
          exact bodyPost_ret (v := .tuple #[.int .i64 (i : Int), .bool false]) (by simp [results, Try.results32, go_sem]) rfl ⟨⟨false, by rw [HE.out]⟩, rfl⟩
      · have him2 : (m : Int) ≤ (i : Int) := by omega
        go_wp2_with fail
        exact bodyPost_ret (v := .tuple #[.int .i64 (i : Int), .bool false]) (by simp [results, Try.results32, go_sem]) rfl ⟨⟨false, by rw [HE.out]⟩, rfl⟩
set_option maxHeartbeats 1000000 in
theorem kCheck_to {L : List Nd} {of : List Int} {v : Int} (hv : chkK L of = v) {A B : Option Addr} {n c m d : Nat} {w : World} (hP : PreV L w A n) (hI : Ints w B m of) (hm : m ≤ 1000000) :
    Calls Try.prog 12 #[.slice A n c, .slice B m d] w fun e w' => e = .returned (.int .i64 v) ∧ Below w.heap.size w w' := by
  have HV := Lib.hid hv
  rcases hk : kinB L of with _ | _
  · have HC := Lib.hid (kmay_to (c := c) (d := d) hk hP hI hm)
    have HE := Lib.hid (show v = 4 by rw [← HV.out]; unfold chkK; rw [hk]; rfl)
    clear hv hP hI hk
    go_enter Try.func12, Try.ntmps12
    go_wp2_with fail
    refine HC.out.mono ?_
    rintro e w1 ⟨rfl, hb⟩
    have HB := Lib.hid hb
    clear hb
    go_wp2_with fail
    go_ret
    exact ⟨ret_int HE.out.symm, HB.out⟩
  · have HC := Lib.hid (kmay_to (c := c) (d := d) hk hP hI hm)
    have HE := Lib.hid (show v = 0 by rw [← HV.out]; unfold chkK; rw [hk]; rfl)
    clear hv hP hI hk
    go_enter Try.func12, Try.ntmps12
    go_wp2_with fail
    refine HC.out.mono ?_
    rintro e w1 ⟨rfl, hb⟩
    have HB := Lib.hid hb
    clear hb
    go_wp2_with fail
    go_ret
    exact ⟨ret_int HE.out.symm, HB.out⟩
/-- which atoms a number's block holds; none, if the row may not be. -/
def heldA (L : List Nd) (of : List Int) (b : Int) : Int × Int := if kinB L of then heldK L of b else (0, 0)
theorem heldK_no {L : List Nd} {of : List Int} {b : Int} (h : blkI L b = false) : heldK L of b = (0, 0) := by
  unfold heldK
  unfold blkI blockK at h
  by_cases h0 : 0 ≤ b
  · rw [if_pos h0]
    rw [decide_eq_true h0, Bool.true_and] at h
    cases hx : L[b.toNat]? with
    | none => rfl
    | some x =>
      rw [hx] at h
      have h1 : ¬ x.kind = 1 := by simpa using h
      show (if x.kind = 1 ∧ _ then _ else _) = _
      rw [if_neg (fun h9 => h1 h9.1)]
  · rw [if_neg h0]
set_option maxHeartbeats 2000000 in
set_option maxRecDepth 100000 in
theorem kHeld_to {L : List Nd} {of : List Int} {b p q : Int} (hv : heldA L of b = (p, q)) {A B : Option Addr} {n c m d : Nat} {w : World} (hP : PreV L w A n) (hI : Ints w B m of) (hm : m ≤ 1000000) :
    Calls Try.prog 10 #[.slice A n c, .slice B m d, .int .i64 b] w fun e w' => e = .returned (.tuple #[.int .i64 p, .int .i64 q]) ∧ Below w.heap.size w w' := by
  have HV := Lib.hid hv
  have HP := Lib.hid hP
  have HI := Lib.hid hI
  have hon : On w (w.alloc (.cells #[.slice A n c, .slice B m d] 53)) := On.alloc (On.refl w) _
  have hn2 := hP.2
  rcases hk : kinB L of with _ | _
  · have HC := Lib.hid (kmay_to (c := c) (d := d) hk (hP.below hon) (hI.below hon rfl) hm)
    have HE := Lib.hid (show (p, q) = (0, 0) by rw [← HV.out]; unfold heldA; rw [hk]; rfl)
    clear hv hP hI hk
    go_enter Try.func10, Try.ntmps10
    go_wp2_with fail
    refine HC.out.mono ?_
    rintro e w1 ⟨rfl, hb⟩
    have HB := Lib.hid (below_then hon hb)
    clear hb hon
    go_wp2_with fail
    exact bodyPost_ret (v := .tuple #[.int .i64 0, .int .i64 0]) (by simp [results, Try.results10, go_sem]) rfl ⟨by have := HE.out; injection this with e1 e2; rw [e1, e2], HB.out⟩
  have HC := Lib.hid (kmay_to (c := c) (d := d) hk (hP.below hon) (hI.below hon rfl) hm)
  have HK := Lib.hid (kin_ok hk)
  have HVK := Lib.hid (show heldK L of b = (p, q) by rw [← HV.out]; unfold heldA; rw [hk]; rfl)
  have HBX := Lib.hid (box_new16 w [.slice A n c, .slice B m d] 53 _ rfl _ rfl)
  clear hv hP hI hk
  rcases hbk : blkI L b with _ | _
  · have HBK := Lib.hid hbk
    have HE := Lib.hid (show (p, q) = (0, 0) by rw [← HVK.out, heldK_no hbk])
    clear hbk
    go_enter Try.func10, Try.ntmps10
    go_wp2_with fail
    refine HC.out.mono ?_
    rintro e w1 ⟨rfl, hb⟩
    have HB := Lib.hid (show On w w1 from below_then hon hb)
    obtain ⟨q0, q1, _, _, _⟩ := (HBX.out.below hb).of2
    clear hb hon
    go_wp2_with fail
    refine (kblock_to HBK.out (HP.out.1.below HB.out)).mono ?_
    rintro e w2 ⟨rfl, rfl⟩
    go_wp2_with fail
    exact bodyPost_ret (v := .tuple #[.int .i64 0, .int .i64 0]) (by simp [results, Try.results10, go_sem]) rfl ⟨by have := HE.out; injection this with e1 e2; rw [e1, e2], HB.out⟩
  have HBK := Lib.hid hbk
  unfold blkI blockK at hbk
  rw [Bool.and_eq_true, decide_eq_true_eq] at hbk
  obtain ⟨hb0, hbk⟩ := hbk
  obtain ⟨i, rfl⟩ : ∃ i : Nat, b = (i : Int) := ⟨b.toNat, by omega⟩
  rw [Int.toNat_natCast] at hbk
  obtain ⟨x, hx⟩ : ∃ x, L[i]? = some x := by
    cases h : L[i]? with
    | none => rw [h] at hbk; cases hbk
    | some x => exact ⟨x, rfl⟩
  rw [hx] at hbk
  have hk1 : x.kind = 1 := by simpa using hbk
  obtain ⟨t, ht⟩ : ∃ t, (i : Int) + x.size = t := ⟨_, rfl⟩
  obtain ⟨u, hu⟩ : ∃ u, (cutI of (i : Int) : Int) = u := ⟨_, rfl⟩
  obtain ⟨z, hz⟩ : ∃ z, (cutI of t : Int) = z := ⟨_, rfl⟩
  have HX := Lib.hid hx
  have HT := Lib.hid ht
  have HU := Lib.hid hu
  have HZ := Lib.hid hz
  have HE := Lib.hid (show (p, q) = if u < z then (u, z) else (0, 0) by
    rw [← HVK.out, heldK_nat of hx, hk1, ht, hu, hz]
    by_cases h : cutI of (i : Int) < cutI of t
    · rw [if_pos ⟨rfl, h⟩, if_pos (by omega)]
    · rw [if_neg (fun h9 => h h9.2), if_neg (by omega)])
  have hle : u ≤ z := by
    have hs := (HK.out.doc.2.nested i x hx).1
    have hl1 := cutI_le of (i : Int)
    rcases Nat.lt_or_ge (cutI of t) (cutI of (i : Int)) with h | h
    · exfalso
      have ha : of[cutI of t]? = some (of[cutI of t]'(by omega)) := List.getElem?_eq_getElem _
      have h1 := (cutI_lt HK.out.rise (i : Int) ha).1 h
      have h2 : ¬ (cutI of t < cutI of t) := by omega
      exact h2 ((cutI_lt HK.out.rise t ha).2 (by omega))
    · omega
  clear hx ht hu hz hbk hk1
  go_enter Try.func10, Try.ntmps10
  go_wp2_with fail
  refine HC.out.mono ?_
  rintro e w1 ⟨rfl, hb⟩
  have HB := Lib.hid (show On w w1 from below_then hon hb)
  obtain ⟨q0, q1, _, _, _⟩ := (HBX.out.below hb).of2
  clear hb hon
  go_wp2_with fail
  refine (kblock_to HBK.out (HP.out.1.below HB.out)).mono ?_
  rintro e w2 ⟨rfl, rfl⟩
  go_wp2_with fail
  refine (kbs_to HK.out.rise HU.out (HI.out.below HB.out rfl) hm).mono ?_
  rintro e w2 ⟨⟨f1, rfl⟩, rfl⟩
  go_wp2_with fail
  refine (kend_to HK.out.doc.2.nested HX.out HT.out (HP.out.1.below HB.out) hn2).mono ?_
  rintro e w2 ⟨rfl, rfl⟩
  go_wp2_with fail
  refine (kbs_to HK.out.rise HZ.out (HI.out.below HB.out rfl) hm).mono ?_
  rintro e w2 ⟨⟨f2, rfl⟩, rfl⟩
  clear q0 q1
  by_cases huz : u = z
  · subst huz
    have hq : (u == u) = true := by simp
    have HE2 := Lib.hid (show (p, q) = (0, 0) by rw [HE.out, if_neg (Int.lt_irrefl _)])
    go_wp2_with fail
    exact bodyPost_ret (v := .tuple #[.int .i64 0, .int .i64 0]) (by simp [results, Try.results10, go_sem]) rfl ⟨by have := HE2.out; injection this with e1 e2; rw [e1, e2], HB.out⟩
  · have hq : (u == z) = false := by simpa using huz
    have HE2 := Lib.hid (show (p, q) = (u, z) by rw [HE.out, if_pos (by omega)])
    go_wp2_with fail
    exact bodyPost_ret (v := .tuple #[.int .i64 u, .int .i64 z]) (by simp [results, Try.results10, go_sem]) rfl ⟨by have := HE2.out; injection this with e1 e2; rw [e1, e2], HB.out⟩
end Go.Proofs.Ytamakeogaipdiaa
