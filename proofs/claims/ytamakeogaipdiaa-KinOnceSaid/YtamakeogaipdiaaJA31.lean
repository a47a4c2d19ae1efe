import Derived.Test.YtamakeogaipdiaaJA30
import Derived.Test.YtamakeogaipdiaaJA24
import Derived.Test.YtamakeogaipdiaaJA04
import Derived.Test.YtamakeogaipdiaaJA19
import Derived.Test.YtamakeogaipdiaaJA23
import Derived.Test.YtamakeogaipdiaaJA00
import Derived.Test.YtamakeogaipdiaaJA29
import Derived.Deep.RegionHeld3
/- Stage 16's laws: what is asked of any place; vast, is, among, chain; the chapter's examples. -/
namespace Go.Proofs.Ytamakeogaipdiaa
open Go.RowKit
set_option linter.unusedVariables false
set_option linter.unusedSimpArgs false
/-- At's answer. -/
def kinA (L : List Nd) (of : List Int) (k : Int) : Kn × Int := if kinB L of && (decide (0 ≤ k) && decide (k ≤ (of.length : Int))) then (kinK L of k, 0) else (Kn.no, 4)
/-- At's answer, in memory. -/
def AtOut (w : World) (x : Kn) (f : Int) (e : Ending) (w' : World) : Prop := ∃ m, e = .returned (.tuple #[.agg (encKn m).toArray, .int .i64 f]) ∧ KnSee w' m x ∧ Below w.heap.size w w'
theorem AtOut.open_ {w w' : World} {x : Kn} {f : Int} {e : Ending} (h : AtOut w x f e w') : ∃ A1 n1 c1 A2 n2 c2 A3 n3 c3 t, e = .returned (.tuple #[.agg #[.slice A1 n1 c1, .slice A2 n2 c2, .slice A3 n3 c3, .int .i64 t], .int .i64 f]) ∧ KnSee w' ⟨A1, n1, c1, A2, n2, c2, A3, n3, c3, t⟩ x ∧ Below w.heap.size w w' := by
  obtain ⟨⟨A1, n1, c1, A2, n2, c2, A3, n3, c3, t⟩, he, hs, hb⟩ := h
  exact ⟨A1, n1, c1, A2, n2, c2, A3, n3, c3, t, he, hs, hb⟩
theorem katA_to {L : List Nd} {of : List Int} {k : Int} {x : Kn} {f : Int} (hv : kinA L of k = (x, f)) {A B : Option Addr} {n c m d : Nat} {w : World} (hP : PreV L w A n) (hI : Ints w B m of) (hm : m ≤ 1000000) :
    Calls Try.prog 9 #[.slice A n c, .slice B m d, .int .i64 k] w (AtOut w x f) := by
  have hl := hI.1
  unfold kinA at hv
  by_cases hg : kinB L of = true ∧ 0 ≤ k ∧ k ≤ (of.length : Int)
  · rw [hg.1, decide_eq_true hg.2.1, decide_eq_true hg.2.2, if_pos (show (true && (true && true)) = true from rfl)] at hv
    injection hv with e1 e2
    subst e1 e2
    obtain ⟨k0, rfl⟩ : ∃ k0 : Nat, k = (k0 : Int) := ⟨k.toNat, by omega⟩
    exact kAt_to hg.1 hP hI hm (by omega)
  · rw [if_neg (by
      simp only [Bool.and_eq_true, decide_eq_true_eq]
      exact fun h9 => hg ⟨h9.1, h9.2.1, h9.2.2⟩)] at hv
    injection hv with e1 e2
    subst e1 e2
    have hbad : kinB L of = false ∨ k < 0 ∨ (m : Int) < k := by
      rcases hk : kinB L of with _ | _
      · exact .inl rfl
      · right
        by_cases h0 : k < 0
        · exact .inl h0
        · right
          have h1 : ¬ k ≤ (of.length : Int) := fun h9 => hg ⟨hk, by omega, h9⟩
          omega
    exact (kAtNo_to hbad hP hI hm).mono fun e w' ⟨he, hb⟩ => ⟨KnM.none, he, KnSee.no _, hb⟩
/-- nodes, or atoms, more than are gone through. -/
def vast16 (L : List Nd) (of : List Int) : Bool := decide (60 < L.length) || (decide (200 < of.length) || L.any fun x => decide (100 < x.words.length))
theorem vast16_no {L : List Nd} {of : List Int} (h : vast16 L of = false) : L.length ≤ 60 ∧ of.length ≤ 200 ∧ ∀ y ∈ L, y.words.length ≤ 100 := by
  unfold vast16 at h
  simp only [Bool.or_eq_false_iff, decide_eq_false_iff_not, List.any_eq_false, decide_eq_true_eq] at h
  exact ⟨by omega, by omega, fun y hy => by have := h.2.2 y hy; omega⟩
theorem vast16_of {L : List Nd} {of : List Int} (h1 : L.length ≤ 60) (h3 : of.length ≤ 200) (h2 : ∀ (j : Nat) (x : Nd), j < L.length → L[j]? = some x → x.words.length ≤ 100) : vast16 L of = false := by
  unfold vast16
  simp only [Bool.or_eq_false_iff, decide_eq_false_iff_not, List.any_eq_false, decide_eq_true_eq]
  refine ⟨by omega, by omega, fun y hy => ?_⟩
  obtain ⟨j, hj, rfl⟩ := List.getElem_of_mem hy
  have := h2 j _ hj (List.getElem?_eq_getElem hj)
  omega
set_option maxHeartbeats 2000000 in
set_option maxRecDepth 100000 in
theorem vast16_to {L : List Nd} {of : List Int} {v : Bool} (hv : vast16 L of = v) {A B : Option Addr} {n c m d : Nat} {w : World} (h : Sees w A n L) (hI : Ints w B m of) :
    Calls Try.prog 6 #[.slice A n c, .slice B m d] w fun e w' => e = .returned (.bool v) ∧ w = w' := by
  have hla := h.len
  have hbd := h.bound
  have hlo := hI.1
  have hbo := hI.2.1
  have HA := Lib.hid h
  have HV := Lib.hid hv
  clear h hv hI
  by_cases hbig : 60 < n
  · have HW := Lib.hid (show v = true by rw [← HV.out]; unfold vast16; rw [Bool.or_eq_true]; left; simp; omega)
    have h1 : (60 : Int) < (n : Int) := by omega
    clear hla hlo
    go_enter Try.func6, Try.ntmps6
    go_wp2_with fail
    go_ret
    exact ⟨ret_bool HW.out.symm, rfl⟩
  have h1 : (n : Int) ≤ 60 := by omega
  have e1 : decide ((60 : Int) < (n : Int)) = false := decide_eq_false (by omega)
  by_cases hbig2 : 200 < m
  · have HW := Lib.hid (show v = true by rw [← HV.out]; unfold vast16; rw [Bool.or_eq_true]; right; rw [Bool.or_eq_true]; left; simp; omega)
    have h2 : (200 : Int) < (m : Int) := by omega
    clear hla hlo
    go_enter Try.func6, Try.ntmps6
    go_wp2_with fail
    go_ret
    exact ⟨ret_bool HW.out.symm, rfl⟩
  have h2 : (m : Int) ≤ 200 := by omega
  have HLA := Lib.hid hla
  have HLO := Lib.hid hlo
  clear hla hlo
  go_enter Try.func6, Try.ntmps6
  go_wp2_with fail
  go_loopw [5] (fun i wr => ∃ k : Nat, k ≤ n ∧ i = .int .i64 k ∧ Hid (∀ (j : Nat) (x : Nd), j < k → L[j]? = some x → x.words.length ≤ 100) ∧ wr = w) (fun i _ => n - (intOf i).toNat)
  case atStart => exact ⟨0, by omega, rfl, Lib.hid (fun j x hj => by omega), rfl⟩
  case round =>
    obtain ⟨k, hk, rfl, HL, rfl⟩ := hrel
    by_cases hlt : k < n
    · obtain ⟨b1, o1, m1, x1, rfl, hb1, e1', r1, s1⟩ := HA.out.at_ hlt
      have c16 : wr.cell? ⟨b1, o1 + k * 20 + 16, none⟩ = some (.slice m1.A m1.n m1.c) := r1 16 _ rfl
      have hw1 : x1.words.length = m1.n := s1.2.1
      have hwb : m1.n ≤ 9223372036854775807 := s1.2.2.1
      have hk2 : (k : Int) < (n : Int) := by omega
      have hk0 : (0 : Int) ≤ (k : Int) := by omega
      have hwk : IntKind.i64.wrap ((k : Int) + 1) = (k : Int) + 1 := IntWalk.i64_in _ (by omega)
      obtain ⟨nw, hnw⟩ : ∃ nw, m1.n = nw := ⟨_, rfl⟩
      rw [hnw] at c16 hw1 hwb
      have HW1 := Lib.hid hw1
      have HE := Lib.hid e1'
      clear r1 s1 hw1 e1' hnw
      by_cases hbw : 100 < nw
      · have hbw2 : (100 : Int) < (nw : Int) := by omega
        have HW := Lib.hid (show v = true by
          rw [← HV.out]; unfold vast16
          rw [Bool.or_eq_true, Bool.or_eq_true, List.any_eq_true]
          exact .inr (.inr ⟨x1, List.mem_of_getElem? HE.out, by rw [HW1.out]; simpa using hbw⟩))
        go_wp2_with fail
        go_ret
        exact ⟨ret_bool HW.out.symm, rfl⟩
      · have hbw2 : (nw : Int) ≤ 100 := by omega
        have HN := Lib.hid (show ∀ (j : Nat) (x : Nd), j < k + 1 → L[j]? = some x → x.words.length ≤ 100 from fun j x hj hx => by
          rcases Nat.lt_or_ge j k with h3 | h3
          · exact HL.out j x h3 hx
          · obtain rfl : j = k := by omega
            rw [HE.out] at hx
            injection hx with hx
            subst hx
            rw [HW1.out]; omega)
        go_wp2_with fail
        go_roundw
        case rel => exact ⟨k + 1, by omega, by go_num, HN, trivial⟩
        case measure => simp [intOf] <;> omega
    · obtain rfl : k = n := by omega
      have hle : (k : Int) ≤ (k : Int) := Int.le_refl _
      have HE := Lib.hid (show v = false by
        rw [← HV.out]
        exact vast16_of (by have := HLA.out; omega) (by have := HLO.out; omega) (fun j x hj hx => HL.out j x (by have := HLA.out; omega) hx))
      go_wp2_with fail
      go_ret
      exact ⟨ret_bool HE.out.symm, rfl⟩
set_option maxHeartbeats 2000000 in
set_option maxRecDepth 100000 in
/-- that is the kin of a place. -/
theorem kis_to {L : List Nd} {of : List Int} {k : Int} {x : Kn} (hv : kinA L of k = (x, 0)) {mw : KnM} {A B : Option Addr} {n c m d : Nat} {w : World} (hP : PreV L w A n) (hI : Ints w B m of) (hm : m ≤ 1000000) (hw : KnSee w mw x) :
    Calls Try.prog 22 #[.slice A n c, .slice B m d, .int .i64 k, .agg (encKn mw).toArray] w fun e w' => e = .returned (.bool true) ∧ Below w.heap.size w w' := by
  obtain ⟨B1, m1, d1, B2, m2, d2, B3, m3, d3, u⟩ := mw
  have HC := Lib.hid (fun (W : World) (hW : On w W) => katA_to (c := c) (d := d) hv (hP.below hW) (hI.below hW rfl) hm)
  have HW := Lib.hid hw
  clear hv hP hI hw
  show Calls Try.prog 22 #[.slice A n c, .slice B m d, .int .i64 k, .agg #[.slice B1 m1 d1, .slice B2 m2 d2, .slice B3 m3 d3, .int .i64 u]] w _
  go_enter Try.func22, Try.ntmps22
  go_wp2_with fail
  generalize hU : World.alloc w _ = U
  have HO := Lib.hid (show On w U by rw [← hU]; exact On.alloc (On.refl w) _)
  have HX := Lib.hid (show Box U w.heap.size [.slice B1 m1 d1, .slice B2 m2 d2, .slice B3 m3 d3, .int .i64 u] by rw [← hU]; exact box_new16 _ _ _ _ rfl _ rfl)
  clear hU
  refine (HC.out U HO.out).mono ?_
  rintro e w1 ho
  obtain ⟨A1, n1, c1, A2, n2, c2, A3, n3, c3, t, rfl, hs, hb⟩ := ho.open_
  have HS := Lib.hid hs
  have HO1 := Lib.hid (HO.out.step hb)
  have HX1 := Lib.hid (HX.out.below hb)
  clear ho hs hb HX HC
  have x0 := HX1.out.2.2 0 _ rfl
  have x1 := HX1.out.2.2 1 _ rfl
  have x2 := HX1.out.2.2 2 _ rfl
  have x3 := HX1.out.2.2 3 _ rfl
  have hl := HX1.out.1
  go_wp2_with fail
  generalize hV : World.alloc w1 _ = V
  have hal : On w1 V := by rw [← hV]; exact On.alloc (On.refl w1) _
  have HO2 := Lib.hid (HO1.out.step hal)
  clear hV
  refine (vksame_to (HS.out.below hal) (HW.out.below HO2.out)).mono ?_
  rintro e w2 ⟨rfl, hb⟩
  have HO3 := Lib.hid (HO2.out.step hb)
  clear hb hal x0 x1 x2 x3
  go_wp2_with fail
  go_ret
  exact ⟨rfl, HO3.out⟩
/-! ### the chapter's examples -/
def doc16 : List Nd := [⟨1, 4, ⟨0, 0, 0, 0, 0, 2, 2, 0, 0, 0, 0, 0⟩, 0, 0, [], 0, 0, 0⟩, ⟨2, 1, .none, 1, 0, [5, 5], 0, 0, 0⟩, ⟨1, 2, ⟨0, 0, 0, 0, 0, 2, 2, 0, 0, 0, 0, 0⟩, 0, 0, [], 0, 0, 0⟩, ⟨3, 1, .none, 0, 0, [], 0, 1, 1⟩, ⟨3, 1, .none, 0, 0, [], 0, 2, 2⟩]
def of16 : List Int := [1, 1, 3, 4]
theorem eval16 : evalF ⟨#[91, 32, 40, 49, 32, 48, 32, 53, 32, 53, 41, 32, 91, 32, 123, 49, 32, 49, 125, 32, 93, 32, 93, 32, 123, 50, 32, 50, 125]⟩ = some (some doc16, 0) := by show evalF ⟨#[91, 32, 40, 49, 32, 48, 32, 53, 32, 53, 41, 32, 91, 32, 123, 49, 32, 49, 125, 32, 93, 32, 93, 32, 123, 50, 32, 50, 125]⟩ = _; decide +kernel
theorem held16 : heldA doc16 of16 0 = (0, 3) := by decide +kernel
theorem chk16a : chkK doc16 of16 = 0 := by decide +kernel
theorem chk16b : chkK doc16 [1, 1, 3] = 4 := by decide +kernel
theorem kin16a : kinA doc16 of16 0 = (⟨[], [0], [], -1⟩, 0) := by kernel_rfl
theorem kin16b : kinA doc16 of16 1 = (⟨[], [], [0], 1⟩, 0) := by kernel_rfl
theorem kin16c : kinA doc16 of16 2 = (⟨[], [2], [0], -1⟩, 0) := by kernel_rfl
theorem kin16d : kinA doc16 of16 3 = (⟨[2, 0], [], [], -1⟩, 0) := by kernel_rfl
theorem kin16e : kinA doc16 of16 4 = (⟨[], [], [], -1⟩, 0) := by kernel_rfl
theorem ints_lit16 (w : World) (zs : List Int) (m : Nat) (t : TypeId) (n : Nat) (hn : n = w.heap.size) (cs : Array Value) (hcs : cs = (zs.map (Value.int .i64)).toArray) (hm : zs.length = m) (hm2 : m ≤ 1000) : Ints (w.alloc (.cells cs t)) (some ⟨n, 0, none⟩) m zs := by
  subst hn hcs hm
  exact Ints.new w t zs (by omega)
theorem ints_take16 {w : World} {A : Option Addr} {n k : Nat} {zs : List Int} (h : Ints w A n zs) (hk : k ≤ n) : Ints w A k (zs.take k) := by
  refine ⟨by rw [List.length_take, h.1]; omega, Nat.le_trans hk h.2.1, fun h0 => ?_⟩
  obtain ⟨b, off, e, hl, hc⟩ := h.2.2 (by omega)
  exact ⟨b, off, e, hl, fun j hj => by rw [hc j (by omega), List.getElem?_take, if_pos hj]⟩
set_option maxHeartbeats 8000000 in
set_option maxRecDepth 100000 in
theorem awake16_any (w : World) : Calls Try.prog 7 #[] w fun e w' => e = .returned (.bool true) ∧ Below w.heap.size w w' := by
  go_enter Try.func7, Try.ntmps7
  go_wp2_with fail
  refine (rof_ok (evalF_ok eval16) _ (by decide)).mono ?_
  rintro e w0 ⟨A, n, c, rfl, hN, hb⟩
  have hn1 : n = 5 := by rw [← hN.sees.len]; rfl
  subst hn1
  have HN := Lib.hid (show PreV doc16 w0 A 5 from ⟨hN.sees, by decide⟩)
  have HO := Lib.hid (show On w w0 from hb)
  clear hN hb
  go_wp2_with fail
  generalize hZ : World.alloc w0 _ = Z
  have HI := Lib.hid (show Ints Z (some ⟨w0.heap.size, 0, none⟩) 4 of16 by rw [← hZ]; exact ints_lit16 w0 of16 4 _ _ rfl _ rfl rfl (by decide))
  have hal : On w0 Z := by rw [← hZ]; exact On.alloc (On.refl w0) _
  have HNZ := Lib.hid (HN.out.below hal)
  have HOZ := Lib.hid (HO.out.step hal)
  clear hZ hal HN HO
  refine (kHeld_to held16 HNZ.out HI.out (by decide)).mono ?_
  rintro e w1 ⟨rfl, hb⟩
  have H1 := Lib.hid (show On Z w1 from hb)
  clear hb
  go_wp2_with fail
  have hZ1 := On.alloc (H1.out) (.cells #[.int .i64 0] 3)
  refine (kis_to (mw := ⟨none, 0, 0, some ⟨w1.heap.size, 0, none⟩, 1, 1, none, 0, 0, -1⟩) kin16a (HNZ.out.below hZ1) (HI.out.below hZ1 rfl) (by decide) ⟨Ints.nil _ _, (ints_lit16 w1 [0] 1 _ _ rfl _ rfl rfl (by decide)), Ints.nil _ _, rfl⟩).mono ?_
  rintro e w2 ⟨rfl, hb⟩
  have H2 := Lib.hid (show On Z w2 from On.step hZ1 hb)
  clear hb hZ1
  go_wp2_with fail
  have hZ2 := On.alloc (H2.out) (.cells #[.int .i64 0] 3)
  refine (kis_to (mw := ⟨none, 0, 0, none, 0, 0, some ⟨w2.heap.size, 0, none⟩, 1, 1, 1⟩) kin16b (HNZ.out.below hZ2) (HI.out.below hZ2 rfl) (by decide) ⟨Ints.nil _ _, Ints.nil _ _, (ints_lit16 w2 [0] 1 _ _ rfl _ rfl rfl (by decide)), rfl⟩).mono ?_
  rintro e w3 ⟨rfl, hb⟩
  have H3 := Lib.hid (show On Z w3 from On.step hZ2 hb)
  clear hb hZ2
  go_wp2_with fail
  have hZ3 := On.alloc (On.alloc (H3.out) (.cells #[.int .i64 2] 3)) (.cells #[.int .i64 0] 3)
  refine (kis_to (mw := ⟨none, 0, 0, some ⟨w3.heap.size, 0, none⟩, 1, 1, some ⟨w3.heap.size + 1, 0, none⟩, 1, 1, -1⟩) kin16c (HNZ.out.below hZ3) (HI.out.below hZ3 rfl) (by decide) ⟨Ints.nil _ _, ((ints_lit16 w3 [2] 1 _ _ rfl _ rfl rfl (by decide))).below ((Below.refl _ _).alloc (Nat.le_refl _) _) rfl, (ints_lit16 (World.alloc w3 (.cells #[.int .i64 2] 3)) [0] 1 _ _ (by simp) _ rfl rfl (by decide)), rfl⟩).mono ?_
  rintro e w4 ⟨rfl, hb⟩
  have H4 := Lib.hid (show On Z w4 from On.step hZ3 hb)
  clear hb hZ3
  go_wp2_with fail
  have hZ4 := On.alloc (H4.out) (.cells #[.int .i64 2, .int .i64 0] 3)
  refine (kis_to (mw := ⟨some ⟨w4.heap.size, 0, none⟩, 2, 2, none, 0, 0, none, 0, 0, -1⟩) kin16d (HNZ.out.below hZ4) (HI.out.below hZ4 rfl) (by decide) ⟨(ints_lit16 w4 [2, 0] 2 _ _ rfl _ rfl rfl (by decide)), Ints.nil _ _, Ints.nil _ _, rfl⟩).mono ?_
  rintro e w5 ⟨rfl, hb⟩
  have H5 := Lib.hid (show On Z w5 from On.step hZ4 hb)
  clear hb hZ4
  go_wp2_with fail
  have hZ5 := H5.out
  refine (kis_to (mw := ⟨none, 0, 0, none, 0, 0, none, 0, 0, -1⟩) kin16e (HNZ.out.below hZ5) (HI.out.below hZ5 rfl) (by decide) ⟨Ints.nil _ _, Ints.nil _ _, Ints.nil _ _, rfl⟩).mono ?_
  rintro e w6 ⟨rfl, hb⟩
  have H6 := Lib.hid (show On Z w6 from On.step hZ5 hb)
  clear hb hZ5
  go_wp2_with fail
  refine (kCheck_to chk16a (HNZ.out.below H6.out) (HI.out.below H6.out rfl) (by decide)).mono ?_
  rintro e w7 ⟨rfl, hb⟩
  have H7 := Lib.hid (show On Z w7 from On.step H6.out hb)
  clear hb
  go_wp2_with fail
  refine (kCheck_to chk16b (HNZ.out.below H7.out) (ints_take16 (k := 3) (HI.out.below H7.out rfl) (by decide)) (by decide)).mono ?_
  rintro e w8 ⟨rfl, hb⟩
  have H8 := Lib.hid (show On Z w8 from On.step H7.out hb)
  clear hb
  go_wp2_with fail
  go_ret
  exact ⟨rfl, HOZ.out.step H8.out⟩
end Go.Proofs.Ytamakeogaipdiaa
