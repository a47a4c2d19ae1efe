import Derived.Test.YtkbpiekmphcdnaaRectLaws
import Derived.Test.YtkbpiekmphcdnaaRectSlicesMath
/- The walk of the law RectSlices, where there are slices. -/
namespace Go.Proofs.Ytkbpiekmphcdnaa
open Go.RowKit
set_option linter.unusedVariables false
set_option linter.unusedSimpArgs false
theorem run_max5 {P : Program} (W : World) (ts : Array TypeId) (t : TypeId) (a b c d e : Int) : (Builtin.max_ ts t #[.int .i64 a, .int .i64 b, .int .i64 c, .int .i64 d, .int .i64 e]).run P W = .ok (.int .i64 (max (max (max (max a b) c) d) e)) W := by
  have m : ∀ x y : Int, (if x < y then y else x) = max x y := fun x y => by
    rw [Int.max_def]; split <;> split <;> omega
  simp [Builtin.max_, Builtin.max2, m]
theorem run_min4 {P : Program} (W : World) (ts : Array TypeId) (t : TypeId) (a b c d : Int) : (Builtin.min_ ts t #[.int .i64 a, .int .i64 b, .int .i64 c, .int .i64 d]).run P W = .ok (.int .i64 (min (min (min a b) c) d)) W := by
  have m : ∀ x y : Int, (if y < x then y else x) = min x y := fun x y => by
    rw [Int.min_def]; split <;> split <;> omega
  simp [Builtin.min_, Builtin.min2, m]
/-- the greatest of five, as a number of its own. -/
theorem max5 {P : Program} (a b c d e : Int) : ∃ M, (∀ (W : World) (ts : Array TypeId) (t : TypeId), (Builtin.max_ ts t #[.int .i64 a, .int .i64 b, .int .i64 c, .int .i64 d, .int .i64 e]).run P W = .ok (.int .i64 M) W) ∧ ((288230376151711744 < a ∨ 288230376151711744 < b ∨ 288230376151711744 < c ∨ 288230376151711744 < d ∨ 288230376151711744 < e) → 288230376151711744 < M) ∧ (¬ (288230376151711744 < a ∨ 288230376151711744 < b ∨ 288230376151711744 < c ∨ 288230376151711744 < d ∨ 288230376151711744 < e) → M ≤ 288230376151711744) :=
  ⟨_, fun W ts t => run_max5 W ts t a b c d e, fun h => by omega, fun h => by omega⟩
theorem min4 {P : Program} (a b c d : Int) : ∃ M, (∀ (W : World) (ts : Array TypeId) (t : TypeId), (Builtin.min_ ts t #[.int .i64 a, .int .i64 b, .int .i64 c, .int .i64 d]).run P W = .ok (.int .i64 M) W) ∧ ((a < -288230376151711744 ∨ b < -288230376151711744 ∨ c < -288230376151711744 ∨ d < -288230376151711744) → M < -288230376151711744) ∧ (¬ (a < -288230376151711744 ∨ b < -288230376151711744 ∨ c < -288230376151711744 ∨ d < -288230376151711744) → -288230376151711744 ≤ M) :=
  ⟨_, fun W ts t => run_min4 W ts t a b c d, fun h => by omega, fun h => by omega⟩
theorem decide_hasR {r : Rc} {px py : Int} {v : Bool} (h : decide (hasR r px py) = v) : (if hasR r px py then (1 : Int) else 0) = if v then 1 else 0 := by
  subst h
  by_cases k : hasR r px py
  · rw [if_pos k, if_pos (decide_eq_true k)]
  · rw [if_neg k, if_neg (by simpa using k)]
set_option maxRecDepth 100000 in
set_option maxHeartbeats 4000000 in
theorem rectslices_main (x y w h high px py : Int) (w0 : World) (hhb : -9223372036854775808 ≤ high ∧ high ≤ 9223372036854775807) (hi : x ≤ 288230376151711744 ∧ y ≤ 288230376151711744 ∧ w ≤ 288230376151711744 ∧ h ≤ 288230376151711744 ∧ high ≤ 288230376151711744) (lo : -288230376151711744 ≤ x ∧ -288230376151711744 ≤ y ∧ -288230376151711744 ≤ w ∧ -288230376151711744 ≤ h)
    (hc : 0 < high) (hc1 : 1 ≤ h) (g1 : 0 ≤ h / high) (g2 : h / high ≤ h) (hc2 : h / high ≤ 2000) (hc3 : 1 ≤ w) (hc4 : 0 ≤ (h - 1) / high) (hc5 : (h - 1) / high ≤ 2000) (M m : Int)
    (hmx : ∀ (W : World) (ts : Array TypeId) (t : TypeId), (Builtin.max_ ts t #[.int .i64 x, .int .i64 y, .int .i64 w, .int .i64 h, .int .i64 high]).run Try.prog W = .ok (.int .i64 M) W)
    (hmn : ∀ (W : World) (ts : Array TypeId) (t : TypeId), (Builtin.min_ ts t #[.int .i64 x, .int .i64 y, .int .i64 w, .int .i64 h]).run Try.prog W = .ok (.int .i64 m) W) (hM : M ≤ 288230376151711744) (hm : -288230376151711744 ≤ m) :
    Calls Try.prog 8 #[.agg #[.int .i64 x, .int .i64 y, .int .i64 w, .int .i64 h], .int .i64 high, .int .i64 px, .int .i64 py] w0 fun e w' => e = .returned (.bool true) ∧ Below w0.heap.size w0 w' := by
  obtain ⟨x1, y1, w1, h1, hi1⟩ := hi
  obtain ⟨x2, y2, w2, h2⟩ := lo
  have HN : Hid (NearR ⟨x, y, w, h⟩) := Lib.hid (show NearR ⟨x, y, w, h⟩ by unfold NearR Near60; simp only; omega)
  have HF : Hid (Fit ⟨x, y, w, h⟩) := Lib.hid (show Fit ⟨x, y, w, h⟩ by unfold Fit Near; simp only; omega)
  have HNo : Hid (¬ noneR ⟨x, y, w, h⟩) := Lib.hid (show ¬ (w < 1 ∨ h < 1) by omega)
  have HFar : Hid (¬ 32768 < (h - 1) / high + 1) := Lib.hid (show ¬ 32768 < (h - 1) / high + 1 by omega)
  have o0 : IntKind.i64.wrap (y + h) = y + h := IntWalk.i64_in _ (by omega)
  obtain ⟨cnt, hcnt⟩ : ∃ cnt, countS ⟨x, y, w, h⟩ high = cnt := ⟨_, rfl⟩
  have HCnt := Lib.hid hcnt
  have hcs := (countS_some (r := ⟨x, y, w, h⟩) HNo.out (by omega) HFar.out)
  rw [hcnt] at hcs
  have hc6 : 1 ≤ cnt := hcs.2.1
  have hc7 : cnt ≤ 32768 := hcs.2.2
  clear hcs hcnt
  obtain ⟨at_, hat⟩ : ∃ at_ : Nat → Int, (fun k => y + topK h high k) = at_ := ⟨_, rfl⟩
  obtain ⟨mk, hmk⟩ : ∃ mk : Nat → Int, (fun k => manyK ⟨x, y, w, h⟩ high px py k) = mk := ⟨_, rfl⟩
  have a0 : at_ 0 = y := by rw [← hat]; show y + topK h high 0 = y; rw [topK_zero hc1]; omega
  have aE : at_ cnt = y + h := by rw [← hat, ← HCnt.out]; show y + topK h high _ = y + h; rw [show topK h high (countS ⟨x, y, w, h⟩ high) = h from topK_end (r := ⟨x, y, w, h⟩) HNo.out (by omega) HFar.out]
  have m0 : mk 0 = 0 := by rw [← hmk]; exact manyK_zero HNo.out
  obtain ⟨hv, hhv⟩ : ∃ hv, decide (hasR ⟨x, y, w, h⟩ px py) = hv := ⟨_, rfl⟩
  have mE : mk cnt = if hv then 1 else 0 := by
    rw [← hmk, ← HCnt.out]
    exact (manyK_end (r := ⟨x, y, w, h⟩) HNo.out (by omega) HFar.out).trans (decide_hasR hhv)
  have hstep : ∀ k, k < cnt → ∃ sh, slicesR ⟨x, y, w, h⟩ high = slicesR ⟨x, y, w, h⟩ high ∧ (slicesR ⟨x, y, w, h⟩ high)[k]? = some ⟨x, at_ k, w, sh⟩ ∧ at_ (k + 1) = at_ k + sh ∧ (1 ≤ sh ∧ sh ≤ high) ∧ (y ≤ at_ k ∧ at_ k + sh ≤ y + h) ∧ (sh < high → cnt ≤ k + 1) ∧ mk (k + 1) = mk k + (if hasR ⟨x, at_ k, w, sh⟩ px py then 1 else 0) := by
    intro k hk
    have hk' : k < countS ⟨x, y, w, h⟩ high := by rw [HCnt.out]; exact hk
    obtain ⟨t1, t2⟩ := topK_step (r := ⟨x, y, w, h⟩) HNo.out (by omega) HFar.out hk'
    have hs := slice_lt (r := ⟨x, y, w, h⟩) HNo.out (by omega) HFar.out hk'
    have hlast := slice_last (r := ⟨x, y, w, h⟩) HNo.out (by omega) HFar.out hk'
    have hmany := manyK_step (r := ⟨x, y, w, h⟩) (px := px) (py := py) HNo.out (by omega) HFar.out hk'
    have hget := slicesR_get hk'
    rw [HCnt.out] at hlast
    simp only at t1 t2 hs hlast
    have hsl : sliceAt ⟨x, y, w, h⟩ high k = ⟨x, at_ k, w, min high (h - (k : Int) * high)⟩ := by
      rw [← hat]
      show sliceAt ⟨x, y, w, h⟩ high k = ⟨x, y + topK h high k, w, _⟩
      rw [t1]; rfl
    rw [hsl] at hget hmany
    refine ⟨_, rfl, hget, ?_, ?_, ?_, hlast, ?_⟩
    · rw [← hat]; show y + topK h high (k + 1) = y + topK h high k + _; rw [t1, t2]; omega
    · omega
    · rw [← hat]; show y ≤ y + topK h high k ∧ y + topK h high k + _ ≤ _; rw [t1]; omega
    · rw [← hmk]; exact hmany
  have mbd : ∀ k, 0 ≤ mk k ∧ mk k ≤ 1 := fun k => by rw [← hmk]; exact manyK_bd _ _ _ _ _
  have A0 := Lib.hid a0
  have AE := Lib.hid aE
  have M0 := Lib.hid m0
  have ME := Lib.hid mE
  have HSt := Lib.hid hstep
  have HMb := Lib.hid mbd
  have HHv := Lib.hid hhv
  have HLen := Lib.hid ((slicesR_len ⟨x, y, w, h⟩ high).trans HCnt.out)
  clear a0 aE m0 mE hstep mbd hhv hat hmk
  go_enter Try.func8, Try.ntmps8
  go_wp2_with fail
  refine (rectslices_any _ _ _ _ _ HN.out hhb _).mono ?_
  rintro e W ⟨A2, n2, k2, rfl, hR, hb⟩
  have hA := (Box.new4 w0 (.int .i64 x) (.int .i64 y) (.int .i64 w) (.int .i64 h) 41).below hb
  have HB := Lib.hid (below_then (by go_grown) hb : Below w0.heap.size w0 W)
  obtain rfl : n2 = cnt := hR.len.symm.trans HLen.out
  have HR := Lib.hid hR
  clear hb hR
  obtain ⟨⟨a0, a1, a2, a3⟩, ⟨f0, f1, f2, f3⟩, a5⟩ := hA.of4
  go_wp2_with fail
  clear a0 a1 a2 a3 a5 f0 f1 f2 f3
  go_loopw [10, 11, 12] (fun v u i wr => ∃ k : Nat, k ≤ n2 ∧ i = .int .i64 k ∧ v = .int .i64 (at_ k) ∧ u = .int .i64 (mk k) ∧ On W wr) (fun _ _ i _ => n2 - (intOf i).toNat)
  case atStart => exact ⟨0, by omega, rfl, by rw [A0.out], by rw [M0.out], On.refl _⟩
  case round =>
    obtain ⟨k, hk, rfl, rfl, rfl, hOn⟩ := hrel
    have HOn := Lib.hid hOn
    clear hOn
    obtain ⟨wo, rfl⟩ : ∃ wo : World, wo = wr := ⟨_, rfl⟩
    by_cases hlt : k < n2
    · obtain ⟨sh, _, hget, hat1, ⟨hs1, hs2⟩, ⟨hs3, hs4⟩, hlast, hmany⟩ := HSt.out k hlt
      obtain ⟨bl, off, p', q', u', v', rfl, hbl, hx, HC⟩ := rects_get HR.out hlt
      rw [hget] at hx
      injection hx with hx
      injection hx with e1 e2 e3 e4
      subst e1 e2 e3 e4
      obtain ⟨mb0, mb1⟩ := HMb.out k
      have HFit : Hid (Fit ⟨x, at_ k, w, sh⟩) := Lib.hid (show Fit ⟨x, at_ k, w, sh⟩ by unfold Fit Near; simp only; omega)
      obtain ⟨hs, hhs⟩ : ∃ hs, decide (hasR ⟨x, at_ k, w, sh⟩ px py) = hs := ⟨_, rfl⟩
      have HMk := Lib.hid (show mk (k + 1) = mk k + (if hs then 1 else 0) from hmany.trans (by rw [decide_hasR hhs]))
      have HAt := Lib.hid hat1
      have HHs := Lib.hid hhs
      have o1 : IntKind.i64.wrap (at_ k + sh) = at_ k + sh := IntWalk.i64_in _ (by omega)
      have o2 : IntKind.i64.wrap (mk k + 1) = mk k + 1 := IntWalk.i64_in _ (by omega)
      have o3 : IntKind.i64.wrap ((n2 : Int) - 1) = (n2 : Int) - 1 := IntWalk.i64_in _ (by omega)
      have hk1 : (0 : Int) ≤ (k : Int) := by omega
      have hk2 : (k : Int) < (n2 : Int) := by omega
      obtain ⟨⟨c0, c1, c2, c3⟩, c4⟩ := HC.out wo HOn.out
      obtain ⟨⟨a0, a1, a2, a3⟩, ⟨f0, f1, f2, f3⟩, a5⟩ := (On.box hA wo HOn.out).of4
      clear hget hmany hat1 hhs
      by_cases hsh : sh < high
      case' pos => have hl : (n2 : Int) ≤ (k : Int) + 1 := by have := hlast hsh; omega
      case' neg => have hl : (0 : Int) ≤ 1 := by omega
      all_goals
        clear hlast
        cases hs
        all_goals
          go_wp2_with fail
          refine (recthas_to HFit.out HHs.out _).mono ?_
          rintro e w2 ⟨rfl, hb2⟩
          have hS2 := (Box.new4 wo (.int .i64 x) (.int .i64 (at_ k)) (.int .i64 w) (.int .i64 sh) 41).below hb2
          have HOn2 := Lib.hid (below_then (On.alloc HOn.out (.cells #[.int .i64 x, .int .i64 (at_ k), .int .i64 w, .int .i64 sh] 41)) hb2)
          clear hb2 c0 c1 c2 c3 c4 a0 a1 a2 a3 a5 f0 f1 f2 f3
          obtain ⟨⟨s0, s1, s2, s3⟩, ⟨f0, f1, f2, f3⟩, s5⟩ := hS2.of4
          go_wp2_with fail
          go_roundw
          case rel => exact ⟨k + 1, by omega, by go_num, by rw [HAt.out], by rw [HMk.out]; simp, HOn2.out⟩
          case measure => simp [intOf]; omega
    · obtain rfl : k = n2 := by omega
      have hE := AE.out
      have hME := ME.out
      have HFit := HF
      obtain ⟨⟨a0, a1, a2, a3⟩, ⟨f0, f1, f2, f3⟩, a5⟩ := (On.box hA wo HOn.out).of4
      cases hv
      all_goals
        simp only [if_true, Bool.false_eq_true, if_false] at hME
        go_wp2_with fail
        refine (recthas_to HF.out HHv.out _).mono ?_
        rintro e w2 ⟨rfl, hb2⟩
        have HOn2 := Lib.hid (below_then HB.out (On.step HOn.out hb2))
        clear hb2 a0 a1 a2 a3 a5 f0 f1 f2 f3
        go_wp2_with (go_at_call 26; refine (rawake_any _).mono ?_; rintro e w' ⟨rfl, hbw⟩)
        go_ret
        exact ⟨rfl, below_then HOn2.out hbw⟩
end Go.Proofs.Ytkbpiekmphcdnaa
