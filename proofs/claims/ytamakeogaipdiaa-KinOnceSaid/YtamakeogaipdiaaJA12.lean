import Derived.Test.YtamakeogaipdiaaJA03
import Derived.BigRegion
import Derived.Test.YtamakeogaipdiaaJA02
import Derived.Deep.MidRow
import Derived.Test.YtamakeogaipdiaaJA05
import Derived.Test.YtamakeogaipdiaaJA00
import Derived.Test.YtamakeogaipdiaaJA01
import Derived.Deep.QuietTactic
import Derived.BigQuiet
import Derived.Test.YtamakeogaipdiaaJA06
import Derived.Test.YtamakeogaipdiaaJA07
import Derived.Test.YtamakeogaipdiaaJA08
import Derived.Deep.LoopGhost
/- slices.Reverse of a row of numbers of the call's own. -/
namespace Go.Proofs.Ytamakeogaipdiaa
open Go.RowKit
set_option linter.unusedVariables false
set_option linter.unusedSimpArgs false
/-- the first k and the last k have changed places. -/
def revTo (zs : List Int) : Nat → List Int
  | 0 => zs
  | k + 1 => ((revTo zs k).set k ((revTo zs k)[zs.length - 1 - k]?.getD 0)).set (zs.length - 1 - k) ((revTo zs k)[k]?.getD 0)
theorem revTo_len (zs : List Int) : ∀ k, (revTo zs k).length = zs.length
  | 0 => rfl
  | k + 1 => by
    unfold revTo
    rw [List.length_set, List.length_set, revTo_len zs k]
theorem revTo_get (zs : List Int) : ∀ (k t : Nat), 2 * k ≤ zs.length → t < zs.length → (revTo zs k)[t]? = if t < k ∨ zs.length - k ≤ t then zs[zs.length - 1 - t]? else zs[t]?
  | 0, t, _, ht => by rw [if_neg (by omega)]; rfl
  | k + 1, t, hk, ht => by
    have hl := revTo_len zs k
    have i1 := revTo_get zs k k (by omega) (by omega)
    have i2 := revTo_get zs k (zs.length - 1 - k) (by omega) (by omega)
    have i3 := revTo_get zs k t (by omega) ht
    rw [if_neg (by omega)] at i1 i2
    have g1 : zs[k]? = some (zs[k]'(by omega)) := List.getElem?_eq_getElem _
    have g2 : zs[zs.length - 1 - k]? = some (zs[zs.length - 1 - k]'(by omega)) := List.getElem?_eq_getElem _
    unfold revTo
    rw [i1, i2, g1, g2, Option.getD_some, Option.getD_some]
    by_cases h1 : t = zs.length - 1 - k
    · subst h1
      rw [List.getElem?_set_self (by rw [List.length_set, hl]; omega), if_pos (by omega), show zs.length - 1 - (zs.length - 1 - k) = k by omega, g1]
    · rw [List.getElem?_set_ne (by omega)]
      by_cases h2 : t = k
      · subst h2
        rw [List.getElem?_set_self (by rw [hl]; omega), if_pos (by omega), g2]
      · rw [List.getElem?_set_ne (by omega), i3]
        by_cases h3 : t < k ∨ zs.length - k ≤ t
        · rw [if_pos h3, if_pos (by omega)]
        · rw [if_neg h3, if_neg (by omega)]
theorem revTo_all {zs : List Int} {k : Nat} (h1 : 2 * k ≤ zs.length) (h2 : zs.length ≤ 2 * k + 1) : revTo zs k = zs.reverse := by
  refine List.ext_getElem? fun t => ?_
  rcases Nat.lt_or_ge t zs.length with ht | ht
  · rw [revTo_get zs k t h1 ht, List.getElem?_reverse ht]
    by_cases h3 : t < k ∨ zs.length - k ≤ t
    · rw [if_pos h3]
    · rw [if_neg h3, show zs.length - 1 - t = t by omega]
  · rw [List.getElem?_eq_none (by rw [revTo_len]; exact ht), List.getElem?_eq_none (by rw [List.length_reverse]; exact ht)]
theorem owns_put16 {w : World} {base : Nat} {e : TypeId} {size : Nat} {b n c : Nat} {xs : List Value} (h : w.ownsRow base e size (.slice (some ⟨b, 0, none⟩) n c) n xs) (j : Nat) (v : Value) : (w.setCell ⟨b, j, none⟩ v).ownsRow base e size (.slice (some ⟨b, 0, none⟩) n c) n (xs.set j v) := by
  refine ⟨by rw [List.length_set]; exact h.1, ?_⟩
  rcases h.2 with ⟨hv, _⟩ | ⟨g, cap, cur, hv, hb, hg, hnc, hcm, hcs, htake⟩
  · cases hv
  · injection hv with hA _ hc
    injection hA with hA
    injection hA with hA
    subst hA hc
    obtain ⟨hlt, hk⟩ := Array.getElem?_eq_some_iff.1 hg
    refine .inr ⟨b, c, cur.setIfInBounds j v, rfl, hb, ?_, hnc, hcm, by simpa using hcs, ?_⟩
    · show (w.heap.modify b _)[b]? = _
      rw [Array.getElem?_eq_getElem (by rw [Array.size_modify]; exact hlt), Array.getElem_modify_self, hk]
      simp
    · rw [Array.toList_setIfInBounds, List.take_set, htake]
/-- where a row of the call's own lies, and that it may be written. -/
theorem owns_open16 {w : World} {base : Nat} {e : TypeId} {A : Option Addr} {n c : Nat} {xs : List Value} (h : w.ownsRow base e 1 (.slice A n c) n xs) (h0 : 0 < n) : ∃ g, A = some ⟨g, 0, none⟩ ∧ (∀ o, w.frozen? ⟨g, o, none⟩ = false) ∧ ∀ j u, xs[j]? = some u → w.cell? ⟨g, j, none⟩ = some u := by
  rcases h.2 with ⟨_, h1⟩ | ⟨g, cap, cur, hv, hb, hg, _⟩
  · omega
  · injection hv with hA
    subst hA
    refine ⟨g, rfl, fun o => by simp [World.frozen?, hg], fun j u hu => ?_⟩
    have := h.cells (g := g) rfl j u hu
    rwa [Go.WideShapes.add_plain, Nat.zero_add] at this
theorem grown_set16 {w w1 : World} {g : Nat} (h : w.grownBy w1 (some g)) (j : Nat) (v : Value) : w.grownBy (w1.setCell ⟨g, j, none⟩ v) (some g) :=
  ⟨h.os, h.tape, h.output, by simpa using h.size, fun k hk hne => (Below.heap_setCell _ _ _ _ (fun e => hne (by rw [e]))).trans (h.block k hk hne)⟩
theorem grown_drew16 {w w1 : World} {row : Option Nat} (h : w.grownBy w1 row) : w.grownBy w1.drew row := ⟨h.os, h.tape, h.output, h.size, h.block⟩
set_option maxHeartbeats 2000000 in
set_option maxRecDepth 100000 in
theorem krev_to {zs : List Int} {base : Nat} {A : Option Addr} {n c : Nat} {w : World} (h : w.ownsRow base 3 1 (.slice A n c) n (zs.map (Value.int .i64))) (hn : n ≤ 1000000) :
    Calls Try.prog 30 #[.slice A n c] w fun e w' => e = .returned (.tuple #[]) ∧ w'.ownsRow base 3 1 (.slice A n c) n (zs.reverse.map (Value.int .i64)) ∧ w.grownBy w' (Value.slice A n c).ownBlock := by
  have hl : zs.length = n := by have := h.1; simpa using this
  have HL := Lib.hid hl
  rcases Nat.eq_zero_or_pos n with rfl | hpos
  · obtain rfl : zs = [] := List.eq_nil_of_length_eq_zero hl
    have HR := Lib.hid h
    clear h hl
    go_enter Try.func30, Try.ntmps30
    go_wp2_with fail
    go_loopw [2, 3] (fun i j wr => i = .int .i64 0 ∧ j = .int .i64 (-1) ∧ wr = w) (fun _ _ _ => 0)
    case atStart => exact ⟨rfl, rfl, rfl⟩
    case round =>
      obtain ⟨rfl, rfl, rfl⟩ := hrel
      go_wp2_with fail
      go_end0
      exact ⟨rfl, HR.out, World.grownBy.refl _ _⟩
  obtain ⟨g, rfl, _, _⟩ := owns_open16 h hpos
  have HR := Lib.hid h
  have hwn : IntKind.i64.wrap ((n : Int) - 1) = (n : Int) - 1 := IntWalk.i64_in _ (by omega)
  clear h hl
  go_enter Try.func30, Try.ntmps30
  go_wp2_with fail
  go_loopw [2, 3] (fun i j wr => ∃ k q : Nat, i = .int .i64 (k : Int) ∧ j = .int .i64 (q : Int) ∧ q + k + 1 = n ∧ 2 * k ≤ n ∧ Hid (wr.ownsRow base 3 1 (.slice (some ⟨g, 0, none⟩) n c) n ((revTo zs k).map (Value.int .i64))) ∧ Hid (w.grownBy wr (some g))) (fun i j _ => (intOf j - intOf i).toNat)
  case atStart => exact ⟨0, n - 1, rfl, by congr 1; omega, by omega, by omega, HR, Lib.hid (World.grownBy.refl _ _)⟩
  case round =>
    obtain ⟨k, q, rfl, rfl, hqk, h2k, HK, HG⟩ := hrel
    by_cases hlt : k < q
    · have hlt2 : (k : Int) < (q : Int) := by omega
      have hk0 : (0 : Int) ≤ (k : Int) := by omega
      have hq0 : (0 : Int) ≤ (q : Int) := by omega
      have hkn : (k : Int) < (n : Int) := by omega
      have hqn : (q : Int) < (n : Int) := by omega
      have hwk : IntKind.i64.wrap ((k : Int) + 1) = (k : Int) + 1 := IntWalk.i64_in _ (by omega)
      have hwq : IntKind.i64.wrap ((q : Int) - 1) = (q : Int) - 1 := IntWalk.i64_in _ (by omega)
      obtain ⟨g', hg', hfz, hcell⟩ := owns_open16 HK.out hpos
      obtain rfl : g = g' := by injection hg' with hg'; injection hg'
      have hlr := revTo_len zs k
      obtain ⟨a, ha⟩ : ∃ a, (revTo zs k)[k]? = some a := ⟨_, List.getElem?_eq_getElem (by rw [hlr, HL.out]; omega)⟩
      obtain ⟨b, hb⟩ : ∃ b, (revTo zs k)[q]? = some b := ⟨_, List.getElem?_eq_getElem (by rw [hlr, HL.out]; omega)⟩
      have c1 : wr.cell? ⟨g, k, none⟩ = some (.int .i64 a) := hcell k _ (by rw [List.getElem?_map, ha]; rfl)
      have c2 : wr.cell? ⟨g, q, none⟩ = some (.int .i64 b) := hcell q _ (by rw [List.getElem?_map, hb]; rfl)
      have f1 := hfz k
      have f2 := hfz q
      have HN := Lib.hid (show revTo zs (k + 1) = ((revTo zs k).set k b).set q a by
        show ((revTo zs k).set k ((revTo zs k)[zs.length - 1 - k]?.getD 0)).set (zs.length - 1 - k) ((revTo zs k)[k]?.getD 0) = _
        rw [show zs.length - 1 - k = q by have := HL.out; omega, ha, hb]; rfl)
      clear hg' hcell hlr ha hb hfz
      go_wp2_with fail
      go_region
      have HO := Lib.hid (show (((wr.setCell ⟨g, k, none⟩ (.int .i64 b)).setCell ⟨g, q, none⟩ (.int .i64 a)).drew).ownsRow base 3 1 (.slice (some ⟨g, 0, none⟩) n c) n ((revTo zs (k + 1)).map (Value.int .i64)) by
        rw [HN.out, List.map_set, List.map_set]
        exact owns_put16 (owns_put16 HK.out k _) q _)
      have HG2 := Lib.hid (grown_drew16 (grown_set16 (grown_set16 HG.out k (.int .i64 b)) q (.int .i64 a)))
      go_wp2_with fail
      go_roundw
      case rel => exact ⟨k + 1, q - 1, by go_num, by congr 1; omega, by omega, by omega, HO, HG2⟩
      case measure => simp [intOf] <;> omega
    · have hle : (q : Int) ≤ (k : Int) := by omega
      have HE := Lib.hid (revTo_all (zs := zs) (k := k) (by rw [HL.out]; omega) (by rw [HL.out]; omega))
      go_wp2_with fail
      go_end0
      exact ⟨rfl, by rw [← HE.out]; exact HK.out, HG.out⟩
end Go.Proofs.Ytamakeogaipdiaa
/- The program's package kin: the text of a place, runs of atoms, how many atoms a node has. -/
namespace Go.Proofs.Ytamakeogaipdiaa
open Go.RowKit
set_option linter.unusedVariables false
set_option linter.unusedSimpArgs false
set_option maxHeartbeats 2000000 in
set_option maxRecDepth 100000 in
theorem ktext_to {of : List Int} {k0 : Nat} {t : Int} (ht : textK of (k0 : Int) = t) {A B : Option Addr} {n c m d : Nat} {w : World} (hk : k0 ≤ m) (hI : Ints w B m of) (hm : m ≤ 9223372036854775807) :
    Calls Try.prog 29 #[.agg #[.slice A n c, .slice B m d], .int .i64 (k0 : Int)] w fun e w' => e = .returned (.int .i64 t) ∧ Below w.heap.size w w' := by
  have hlo := hI.1
  have HLO := Lib.hid hlo
  cases k0 with
  | zero =>
    have HT := Lib.hid (show -1 = t by rw [← ht]; exact (textK_first of).symm)
    have HH := Lib.hid (khas_to (k := -1) (v := false) rfl hm A B n c d)
    generalize hW : w.alloc (.cells #[.slice A n c, .slice B m d] 53) = W
    have hO : On w W := by rw [← hW]; exact On.alloc (On.refl w) _
    have hB : Box W w.heap.size [.slice A n c, .slice B m d] := by rw [← hW]; exact box_new16 _ _ _ _ rfl _ rfl
    obtain ⟨q0, q1⟩ := OnW.of2 hB
    have HO := Lib.hid hO
    have hz1 : ((0 : Nat) : Int) = 0 := rfl
    rw [hz1]
    clear ht hI hO hB hz1 hlo
    go_enter Try.func29, Try.ntmps29
    go_wp2_with fail
    refine wp_region_on (by kernel_rfl) (by kernel_rfl) ?_
    repeat (go_big_quiet_step (first | (go_at_call 44; with_reducible exact Calls.on_of (HH.out _))))
    refine wpQuiet_nil ?_
    intro w5 hw'
    obtain ⟨⟨w6, hOn⟩, hw''⟩ := hw'
    obtain rfl : w5 = w6 := hw''
    go_wp2_with fail
    go_ret
    exact ⟨ret_int HT.out, below_then HO.out hOn⟩
  | succ j =>
    have hj1 : ((j + 1 : Nat) : Int) = (j : Int) + 1 := by omega
    have hks : IntKind.i64.wrap ((j : Int) + 1 - 1) = (j : Int) := by rw [Int.add_sub_cancel]; exact IntWalk.i64_in _ (by omega)
    have HH := Lib.hid (khas_to (k := (j : Int)) (m := m) (v := true) (by rw [decide_eq_true (by omega), decide_eq_true (by omega)]; rfl) hm A B n c d)
    by_cases hje : j + 1 < m
    · have ha : of[j + 1]? = some (of[j + 1]'(by omega)) := List.getElem?_eq_getElem _
      obtain ⟨a, haa⟩ : ∃ a, of[j + 1]'(by omega) = a := ⟨_, rfl⟩
      rw [haa] at ha
      have hp : of[j]? = some (of[j]'(by omega)) := List.getElem?_eq_getElem _
      obtain ⟨p, hpp⟩ : ∃ p, of[j]'(by omega) = p := ⟨_, rfl⟩
      rw [hpp] at hp
      have HT := Lib.hid (show (if a = p then a else -1) = t by rw [← ht, hj1]; exact (textK_at ha hp).symm)
      obtain ⟨b1, o1, rfl, hb1, c9⟩ := hI.2.2 (by omega)
      have c1 := c9 (j + 1) hje
      have cp := c9 j (by omega)
      rw [ha, Option.getD_some] at c1
      rw [hp, Option.getD_some] at cp
      have HH2 := Lib.hid (khas_to (k := (j : Int) + 1) (m := m) (v := true) (by rw [decide_eq_true (by omega), decide_eq_true (by omega)]; rfl) hm A (some ⟨b1, o1, none⟩) n c d)
      generalize hW : w.alloc (.cells #[.slice A n c, .slice (some ⟨b1, o1, none⟩) m d] 53) = W
      have hO : On w W := by rw [← hW]; exact On.alloc (On.refl w) _
      have hB : Box W w.heap.size [.slice A n c, .slice (some ⟨b1, o1, none⟩) m d] := by rw [← hW]; exact box_new16 _ _ _ _ rfl _ rfl
      obtain ⟨q0, q1⟩ := OnW.of2 hB
      have HO := Lib.hid hO
      have hjm : (j : Int) < (m : Int) := by omega
      have hjj0 : (0 : Int) ≤ (j : Int) := by omega
      have hjm1 : (j : Int) + 1 < (m : Int) := by omega
      have hjj1 : (0 : Int) ≤ (j : Int) + 1 := by omega
      have k1 := OnW.cell (On.cell c1 W hO)
      have kp := OnW.cell (On.cell cp W hO)
      have HC1 := Lib.hid (On.cell c1 W hO)
      rw [hj1]
      clear ht hI hO hB hj1 hlo ha haa hp hpp c9 c1 cp hk
      by_cases hap : a = p
      · subst hap
        have haq : (a != a) = false := by simp
        have HT := Lib.hid (show a = t by rw [← HT.out, if_pos rfl])
        go_enter Try.func29, Try.ntmps29
        go_wp2_with fail
        refine wp_region_on (by kernel_rfl) (by kernel_rfl) ?_
        repeat (go_big_quiet_step (first | (go_at_call 44; with_reducible exact Calls.on_of (HH.out _)) | (go_at_call 44; with_reducible exact Calls.on_of (HH2.out _))))
        refine wpQuiet_nil ?_
        intro w5 hw'
        obtain ⟨⟨w6, hOn⟩, hw''⟩ := hw'
        obtain rfl : w5 = w6 := hw''
        have x1 := On.cell HC1.out w5 hOn
        have x2 := q1 ⟨w5, hOn⟩
        simp only at x2
        go_wp2_with fail
        go_ret
        exact ⟨ret_int HT.out, below_then HO.out hOn⟩
      · have haq : (p != a) = true := by simpa using fun e => hap e.symm
        have HT := Lib.hid (show -1 = t by rw [← HT.out, if_neg hap])
        go_enter Try.func29, Try.ntmps29
        go_wp2_with fail
        refine wp_region_on (by kernel_rfl) (by kernel_rfl) ?_
        repeat (go_big_quiet_step (first | (go_at_call 44; with_reducible exact Calls.on_of (HH.out _)) | (go_at_call 44; with_reducible exact Calls.on_of (HH2.out _))))
        refine wpQuiet_nil ?_
        intro w5 hw'
        obtain ⟨⟨w6, hOn⟩, hw''⟩ := hw'
        obtain rfl : w5 = w6 := hw''
        go_wp2_with fail
        go_ret
        exact ⟨ret_int HT.out, below_then HO.out hOn⟩
    · obtain rfl : m = j + 1 := by omega
      have HT := Lib.hid (show -1 = t by rw [← ht]; exact (textK_end (by rw [hlo]; exact Nat.le_refl _)).symm)
      have HH2 := Lib.hid (khas_to (k := (j : Int) + 1) (m := j + 1) (v := false) (by rw [decide_eq_false (show ¬ ((j : Int) + 1 < ((j + 1 : Nat) : Int)) by omega), Bool.and_false]) hm A B n c d)
      generalize hW : w.alloc (.cells #[.slice A n c, .slice B (j + 1) d] 53) = W
      have hO : On w W := by rw [← hW]; exact On.alloc (On.refl w) _
      have hB : Box W w.heap.size [.slice A n c, .slice B (j + 1) d] := by rw [← hW]; exact box_new16 _ _ _ _ rfl _ rfl
      obtain ⟨q0, q1⟩ := OnW.of2 hB
      have HO := Lib.hid hO
      rw [hj1]
      clear ht hI hO hB hj1 hlo hk
      go_enter Try.func29, Try.ntmps29
      go_wp2_with fail
      refine wp_region_on (by kernel_rfl) (by kernel_rfl) ?_
      repeat (go_big_quiet_step (first | (go_at_call 44; with_reducible exact Calls.on_of (HH.out _)) | (go_at_call 44; with_reducible exact Calls.on_of (HH2.out _))))
      refine wpQuiet_nil ?_
      intro w5 hw'
      obtain ⟨⟨w6, hOn⟩, hw''⟩ := hw'
      obtain rfl : w5 = w6 := hw''
      go_wp2_with fail
      go_ret
      exact ⟨ret_int HT.out, below_then HO.out hOn⟩
set_option maxHeartbeats 2000000 in
set_option maxRecDepth 100000 in
theorem krun_to {of : List Int} {k : Nat} {a : Int} {A B : Option Addr} {n c m d : Nat} {w : World} (hk : k ≤ m) (hI : Ints w B m of) (hm : m ≤ 1000000) :
    Calls Try.prog 42 #[.agg #[.slice A n c, .slice B m d], .int .i64 (k : Int), .int .i64 a] w fun e w' => ∃ z : Nat, e = .returned (.int .i64 (z : Int)) ∧ RunAt of k a z ∧ Below w.heap.size w w' := by
  have HLO := Lib.hid hI.1
  have HI := Lib.hid hI
  clear hI
  go_enter Try.func42, Try.ntmps42
  go_wp2_with fail
  generalize hW : World.alloc w _ = W
  have HO0 := Lib.hid (show On w W by rw [← hW]; exact On.alloc (On.refl w) _)
  have HBX := Lib.hid (show Box W w.heap.size [.slice A n c, .slice B m d] by rw [← hW]; exact box_new16 _ _ _ _ rfl _ rfl)
  clear hW
  go_loopw [7] (fun i wr => ∃ z : Nat, i = .int .i64 (z : Int) ∧ k + z ≤ m ∧ Hid (∀ i, i < z → of[k + i]? = some a) ∧ Hid (On W wr)) (fun i _ => m - (intOf i).toNat)
  case atStart => exact ⟨0, rfl, hk, Lib.hid (fun i hi => by omega), Lib.hid (On.refl _)⟩
  case round =>
    obtain ⟨z, rfl, hzm, HA, HO⟩ := hrel
    have hbx := HBX.out.below HO.out
    have q1 := hbx.2.2 1 _ rfl
    have hbl := hbx.1
    obtain ⟨g, hg⟩ : ∃ g, k + z = g := ⟨_, rfl⟩
    have hws : IntKind.i64.wrap ((k : Int) + (z : Int)) = (g : Int) := by rw [IntWalk.i64_in _ (by omega)]; omega
    have hwz : IntKind.i64.wrap ((z : Int) + 1) = (z : Int) + 1 := IntWalk.i64_in _ (by omega)
    have HG := Lib.hid hg
    have hgm : g ≤ m := by omega
    have hzb : z ≤ m := by omega
    clear hbx hg
    by_cases hlt : g < m
    · have hlt2 : (g : Int) < (m : Int) := by omega
      have hg0 : (0 : Int) ≤ (g : Int) := by omega
      have ha : of[g]? = some (of[g]'(by have := HLO.out; omega)) := List.getElem?_eq_getElem _
      obtain ⟨y, hyy⟩ : ∃ y, of[g]'(by have := HLO.out; omega) = y := ⟨_, rfl⟩
      rw [hyy] at ha
      obtain ⟨b1, o1, rfl, hb1, c9⟩ := (HI.out.below (HO0.out.trans (HO.out.mono HO0.out.size)) rfl).2.2 (by omega)
      have c1 := c9 g hlt
      rw [ha, Option.getD_some] at c1
      have HY := Lib.hid ha
      clear c9 ha hyy
      by_cases hya : y = a
      · subst hya
        have hq : (y == y) = true := by simp
        have HN := Lib.hid (show ∀ i, i < z + 1 → of[k + i]? = some y from fun i hi => by
          rcases Nat.lt_or_ge i z with h1 | h1
          · exact HA.out i h1
          · obtain rfl : i = z := by omega
            rw [HG.out, HY.out])
        go_wp2_with fail
        go_roundw
        case rel => exact ⟨z + 1, by go_num, by have := HG.out; omega, HN, HO⟩
        case measure => simp [intOf] <;> (have := HG.out; omega)
      · have hq : (y == a) = false := by simpa using hya
        go_wp2_with fail
        go_ret
        exact ⟨z, rfl, ⟨HA.out, by rw [HG.out, HY.out]; intro e; injection e with e; exact hya e⟩, HO0.out.trans (HO.out.mono HO0.out.size)⟩
    · obtain rfl : g = m := by omega
      have hle : (g : Int) ≤ (g : Int) := Int.le_refl _
      go_wp2_with fail
      go_ret
      exact ⟨z, rfl, ⟨HA.out, by rw [HG.out, List.getElem?_eq_none_iff.2 (by rw [HLO.out]; exact Nat.le_refl _)]; exact fun e => by cases e⟩, HO0.out.trans (HO.out.mono HO0.out.size)⟩
theorem encM_all16 (m : NdM) : (encM m).toArray.all (·.oneCell') = true := by
  rw [Array.all_eq_true_iff_forall_mem]
  intro u hu
  exact encM_one m u (by simpa using hu)
set_option maxHeartbeats 2000000 in
set_option maxRecDepth 100000 in
theorem katoms_to {L : List Nd} {i : Nat} {x : Nd} (hx : L[i]? = some x) {A : Option Addr} {n c : Nat} {w : World} (hS : Sees w A n L) :
    Calls Try.prog 43 #[.slice A n c, .int .i64 (i : Int)] w fun e w' => e = .returned (.tuple #[.int .i64 (leastM x : Int), .int .i64 (mostM x : Int)]) ∧ Below w.heap.size w w' := by
  have hlen : L.length = n := hS.len
  have hbd := hS.bound
  have hin : i < n := by have := (List.getElem?_eq_some_iff.1 hx).1; omega
  have hin2 : (i : Int) < (n : Int) := by omega
  obtain ⟨bn, on_, mm, x', rfl, hbn, hx', hrg, hsh⟩ := hS.at_ hin
  obtain rfl : x = x' := by rw [hx] at hx'; injection hx'
  have hkd : x.kind = mm.kind := hsh.1.1
  have hwd : x.words.length = mm.n := hsh.2.1
  have hwb : mm.n ≤ 9223372036854775807 := hsh.2.2.1
  have HRG := Lib.hid hrg
  have HL := Lib.hid (show leastM x = (if mm.kind = 2 ∨ mm.kind = 3 then 1 else 0) by unfold leastM; rw [hkd])
  have HM := Lib.hid (show mostM x = (if mm.kind = 2 then mm.n else if mm.kind = 3 then 1 else 0) by unfold mostM; rw [hkd, hwd])
  clear hx hx' hrg hsh hkd hwd hS hlen
  go_enter Try.func43, Try.ntmps43
  go_wp2_with ((with_reducible refine stop_load 45 (.tmp 9) ?_ ?_); exact rfl)
  refine Stop.intro ?_
  refine wpList_load_mid rfl 45 (.tmp 9) rfl bn (on_ + i * 20) rfl (encM mm) _ HRG.out Try.underlying45 rfl (by kernel_rfl) ?_
  go_wp2_with ((with_reducible refine stop_store 45 (.tmp 6) (.tmp 10) ?_ ?_); exact rfl)
  refine Stop.intro ?_
  refine wpList_store_row rfl 45 (.tmp 6) (.tmp 10) rfl w.heap.size rfl 45 #[.int .i64 0, .int .i64 0, .int .i64 0, .int .i64 0, .int .i64 0, .int .i64 0, .int .i64 0, .int .i64 0, .int .i64 0, .int .i64 0, .int .i64 0, .int .i64 0, .int .i64 0, .int .i64 0, .int .i64 0, .int .i64 0, .slice none 0 0, .int .i64 0, .int .i64 0, .int .i64 0] (encM mm).toArray rfl (Blk.new w 45 [.int .i64 0, .int .i64 0, .int .i64 0, .int .i64 0, .int .i64 0, .int .i64 0, .int .i64 0, .int .i64 0, .int .i64 0, .int .i64 0, .int .i64 0, .int .i64 0, .int .i64 0, .int .i64 0, .int .i64 0, .int .i64 0, .slice none 0 0, .int .i64 0, .int .i64 0, .int .i64 0] _ rfl _ rfl) (by kernel_rfl) rfl (encM_all16 mm) ?_
  intro V hV
  have hbV : On w V := by rw [hV]; exact below_setRow ((Below.refl _ _).alloc (Nat.le_refl _) _) (Nat.le_refl _) _
  have hK : Box V w.heap.size (encM mm) := by rw [hV]; exact (Blk.row (Blk.new w 45 [.int .i64 0, .int .i64 0, .int .i64 0, .int .i64 0, .int .i64 0, .int .i64 0, .int .i64 0, .int .i64 0, .int .i64 0, .int .i64 0, .int .i64 0, .int .i64 0, .int .i64 0, .int .i64 0, .int .i64 0, .int .i64 0, .slice none 0 0, .int .i64 0, .int .i64 0, .int .i64 0] _ rfl _ rfl) (encM mm) _ rfl).box
  have HBV := Lib.hid hbV
  obtain ⟨kd, hkd⟩ : ∃ kd, mm.kind = kd := ⟨_, rfl⟩
  have x0 : V.cell? ⟨w.heap.size, 0, none⟩ = some (.int .i64 mm.kind) := hK.2.2 0 _ rfl
  have x16 : V.cell? ⟨w.heap.size, 16, none⟩ = some (.slice mm.A mm.n mm.c) := hK.2.2 16 _ rfl
  rw [hkd] at x0
  have HL := Lib.hid (show leastM x = (if kd = 2 ∨ kd = 3 then 1 else 0) by rw [HL.out, hkd])
  have HM := Lib.hid (show mostM x = (if kd = 2 then mm.n else if kd = 3 then 1 else 0) by rw [HM.out, hkd])
  clear hV hbV hK hkd
  by_cases k2 : kd = 2
  · subst k2
    go_wp2_with fail
    go_quiet (fail)
    go_wp2_with fail
    exact bodyPost_ret (v := .tuple #[.int .i64 1, .int .i64 (mm.n : Int)]) (by simp [results, Try.results43, go_sem]) rfl ⟨by rw [HL.out, HM.out]; rfl, below_drewN HBV.out _⟩
  · by_cases k3 : kd = 3
    · subst k3
      go_wp2_with fail
      exact bodyPost_ret (v := .tuple #[.int .i64 1, .int .i64 1]) (by simp [results, Try.results43, go_sem]) rfl ⟨by rw [HL.out, HM.out]; rfl, HBV.out⟩
    · have i2 : (kd == 2) = false := by simpa using k2
      have i3 : (kd == 3) = false := by simpa using k3
      go_wp2_with fail
      exact bodyPost_ret (v := .tuple #[.int .i64 0, .int .i64 0]) (by simp [results, Try.results43, go_sem]) rfl ⟨by rw [HL.out, HM.out, if_neg (by omega), if_neg k2, if_neg k3]; rfl, HBV.out⟩
end Go.Proofs.Ytamakeogaipdiaa
/- The document's answers for package lex: the character that stands there; whether a text is well-formed. -/
namespace Go.Proofs.Ytamakeogaipdiaa
open Go.RowKit
set_option linter.unusedVariables false
set_option linter.unusedSimpArgs false
theorem ret_i32 {a b : Int} (h : a = b) : Ending.returned (.int .i32 a) = Ending.returned (.int .i32 b) := by rw [h]
theorem size_to {s : ByteArray} {k n : Nat} (hn : sizeB s k = n) (w : World) (hk : k ≤ 800000) (hs : s.size ≤ 800000) : Calls Try.prog 54 #[.string s, .int .i64 k] w fun e w' => e = .returned (.int .i64 (n : Int)) ∧ w = w' := by
  subst hn; exact size_any s k w hk hs
set_option maxRecDepth 100000 in
theorem rune_any (s : ByteArray) (k n : Nat) (w : World) (h1 : 1 ≤ n) (h4 : n ≤ 4) (hin : k + n ≤ s.size) (hs : s.size ≤ 800000) : Calls Try.prog 56 #[.string s, .int .i64 k, .int .i64 n] w fun e w' => e = .returned (.int .i32 (runeB s k n)) ∧ Below w.heap.size w w' := by
  have hk : k < s.size := by omega
  have hb := bAt_get s k hk
  have hbd := bAt_bd s k
  have hk2 : (k : Int) < (s.size : Int) := by omega
  by_cases hn1 : n = 1
  · subst hn1
    have HR := Lib.hid (show runeB s k 1 = bAt s k from if_pos rfl)
    have o1 : IntKind.i32.wrap (bAt s k) = bAt s k := by rw [IntKind.wrap_i32]; omega
    go_enter Try.func56, Try.ntmps56
    go_wp2
    go_ret
    exact ⟨ret_i32 HR.out.symm, Below.refl _ _⟩
  · have hnn : ((n : Int) == 1) = false := by simp; omega
    have HR := Lib.hid (show runeB s k n = runeP s k (firstB n) n from if_neg hn1)
    have hcell : (#[Value.int .i64 0, .int .i64 0, .int .i64 192, .int .i64 224, .int .i64 240] : Array Value)[n]? = some (.int .i64 (firstB n)) := by
      rcases (show n = 2 ∨ n = 3 ∨ n = 4 by omega) with rfl | rfl | rfl <;> rfl
    have hfb : 0 ≤ firstB n ∧ firstB n ≤ 240 := by unfold firstB; split <;> (try split) <;> (try split) <;> omega
    have hBd := fun j hj => runeP_bd s k (base := firstB n) (by omega) j hj
    have HBd := Lib.hid hBd
    have hfirst : runeP s k (firstB n) 1 = bAt s k - firstB n := rfl
    have HP1 := Lib.hid hfirst
    clear hfirst
    have hBx : Box (w.alloc (.cells #[.int .i64 0, .int .i64 0, .int .i64 192, .int .i64 224, .int .i64 240] 3)) w.heap.size [.int .i64 0, .int .i64 0, .int .i64 192, .int .i64 224, .int .i64 240] := Box.new _ _ _
    have hc := hBx.2.2 n (.int .i64 (firstB n)) (by simpa using hcell)
    clear hBd hcell
    go_enter Try.func56, Try.ntmps56
    go_wp2_with fail
    have hB0 : Below w.heap.size w (w.alloc (.cells #[.int .i64 0, .int .i64 0, .int .i64 192, .int .i64 224, .int .i64 240] 3)) := by go_grown
    clear hBx
    generalize w.alloc (.cells #[.int .i64 0, .int .i64 0, .int .i64 192, .int .i64 224, .int .i64 240] 3) = W at hc hB0 ⊢
    have HB0 := Lib.hid hB0
    have hn5 : (n : Int) < 5 := by omega
    have hn0 : (0 : Int) ≤ (n : Int) := by omega
    clear hB0
    go_quiet (fail)
    clear hb
    go_wp2_with fail
    go_loopw [8, 9] (fun v i wr => ∃ j m : Nat, 1 ≤ j ∧ j ≤ n ∧ i = .int .i64 j ∧ v = .int .i64 (runeP s k (firstB n) j) ∧ wr = W.drewN m) (fun _ i _ => n - (intOf i).toNat)
    case atStart => exact ⟨1, _, by omega, by omega, rfl, by rw [HP1.out], rfl⟩
    case round =>
      obtain ⟨j, m, hj1, hj, rfl, rfl, rfl⟩ := hrel
      obtain ⟨hp1, hp2⟩ := HBd.out j (by omega)
      by_cases hlt : j < n
      · have hbj := bAt_get s (k + j) (by omega)
        have hbd2 := bAt_bd s (k + j)
        have HSu := Lib.hid (runeP_succ s k (firstB n) hj1)
        have hkj : (k : Int) + (j : Int) < (s.size : Int) := by omega
        have htn : ((k : Int) + (j : Int)).toNat = k + j := by omega
        go_wp2_with fail
        go_roundw
        case rel => exact ⟨j + 1, _, by omega, by omega, by go_num, by rw [HSu.out], rfl⟩
        case measure => simp [intOf]; omega
      · obtain rfl : j = n := by omega
        have o1 : IntKind.i32.wrap (runeP s k (firstB j) j) = runeP s k (firstB j) j := by rw [IntKind.wrap_i32]; omega
        go_wp2_with fail
        go_ret
        exact ⟨ret_i32 HR.out.symm, below_drewN HB0.out m⟩
end Go.Proofs.Ytamakeogaipdiaa
/- The document's answers for package read: the letter of an attribute. -/
namespace Go.Proofs.Ytamakeogaipdiaa
open Go.RowKit
set_option linter.unusedVariables false
set_option linter.unusedSimpArgs false
def lettersZ : ByteArray := ⟨#[109, 110, 112, 113, 105, 111, 119, 104, 66, 65, 73, 99]⟩
def bytesI (t : ByteArray) : List Int := (List.range t.size).map (bAt t)
theorem mem_bytesI {t : ByteArray} {c : Int} : c ∈ bytesI t ↔ ∃ j, j < t.size ∧ bAt t j = c := by unfold bytesI; simp
theorem letters_at : ∀ k, k < 12 → bAt lettersZ k ∈ lettersB := by decide +kernel
theorem letters_all : ∀ c ∈ lettersB, ∃ k, k < 12 ∧ bAt lettersZ k = c := by decide +kernel
theorem letterB_found {l : List Tok} {i : Nat} {told : List Int} {c : Int} (hc : c ∈ lettersB) (h : sgB l i c = true) : letterB l i told = if c ∈ told then 0 else c := by
  have hf : lettersB.find? (sgB l i) = some c := by
    rcases hq : lettersB.find? (sgB l i) with _ | d
    · have := List.find?_eq_none.1 hq c hc
      exact absurd h this
    · have := List.find?_some hq
      by_cases e : d = c
      · rw [e]
      · exact (sg_clash this h e).elim
  unfold letterB
  rw [hf]
theorem letterB_none {l : List Tok} {i : Nat} {told : List Int} (h : ∀ c ∈ lettersB, sgB l i c = false) : letterB l i told = 0 := by
  have hf : lettersB.find? (sgB l i) = none := List.find?_eq_none.2 (fun c hc => by rw [h c hc]; simp)
  unfold letterB
  rw [hf]
theorem rletters_to {z : ByteArray} (hz : lettersZ = z) (w : World) : Calls Try.prog 94 #[] w fun e w' => e = .returned (.string z) ∧ w = w' := by
  subst hz; exact rletters_any w
theorem rsign_to {toks : List Tok} {A : Option Addr} {n c' : Nat} {i : Nat} {c : Int} {v : Bool} (hv : sgB toks i c = v) (w : World) (hR : Rows 4 encT w A n toks) (hi : i ≤ 10000000) : Calls Try.prog 57 #[.slice A n c', .int .i64 i, .int .i32 c] w fun e w' => e = .returned (.bool v) ∧ w = w' := by
  subst hv; exact rsign_any toks A n c' i c w hR hi
theorem rletter_any (toks : List Tok) (A : Option Addr) (n c' : Nat) (i : Nat) (told : ByteArray) (w : World) (hR : Rows 4 encT w A n toks) (hi : i ≤ 1000000) (ht : told.size ≤ 2000000) :
    Calls Try.prog 78 #[.slice A n c', .int .i64 i, .string told] w fun e w' => e = .returned (.int .u8 (letterB toks i (bytesI told))) ∧ Below w.heap.size w w' := by
  have HR := Lib.hid hR
  clear hR
  obtain ⟨z, hz⟩ : ∃ z, lettersZ = z := ⟨_, rfl⟩
  have hzs : z.size = 12 := by rw [← hz]; rfl
  have HZ := Lib.hid hz
  have HL := Lib.hid (show ∀ k, k < 12 → bAt z k ∈ lettersB from hz ▸ letters_at)
  have HA := Lib.hid (show ∀ c ∈ lettersB, ∃ k, k < 12 ∧ bAt z k = c from hz ▸ letters_all)
  clear hz
  go_enter Try.func78, Try.ntmps78
  go_wp2_with (go_at_call 94; refine (rletters_to HZ.out _).mono ?_; rintro e w' ⟨rfl, rfl⟩)
  go_loopw [8, 9] (fun v u wr => ∃ k : Nat, k ≤ 12 ∧ v = .int .i64 k ∧ (∀ j, j < k → sgB toks i (bAt z j) = false) ∧ wr = w) (fun v _ _ => 12 - (intOf v).toNat)
  case atStart => exact ⟨0, by omega, rfl, fun j hj => by omega, rfl⟩
  case round =>
    obtain ⟨k, hk, rfl, hno, rfl⟩ := hrel
    have HN := Lib.hid hno
    clear hno
    by_cases hlt : k < 12
    · have hkz : k < z.size := by omega
      have hk2 : (k : Int) < (z.size : Int) := by omega
      have hb0 := bAt_get z k hkz
      have hbd := bAt_bd z k
      obtain ⟨c, hc⟩ : ∃ c, bAt z k = c := ⟨_, rfl⟩
      rw [hc] at hb0 hbd
      have HC := Lib.hid hc
      have o1 : IntKind.i32.wrap c = c := by rw [IntKind.wrap_i32]; omega
      clear hc
      rcases hs : sgB toks i c with _ | _
      · have HS := Lib.hid hs
        clear hs
        go_wp2_with (go_at_call 57; refine (rsign_to HS.out _ HR.out (by omega)).mono ?_; rintro e w' ⟨rfl, rfl⟩)
        go_roundw
        case rel => exact ⟨k + 1, by omega, by go_num, fun j hj => by
          by_cases e : j = k
          · subst e; rw [HC.out]; exact HS.out
          · exact HN.out j (by omega), by first | rfl | trivial⟩
        case measure => simp [intOf]; omega
      · have HS := Lib.hid hs
        have hcl : c ∈ lettersB := by rw [← HC.out]; exact HL.out k hlt
        have hv := letterB_found (told := bytesI told) hcl hs
        have HV := Lib.hid hv
        clear hs hv
        go_wp2_with (go_at_call 57; refine (rsign_to HS.out _ HR.out (by omega)).mono ?_; rintro e w' ⟨rfl, rfl⟩)
        obtain ⟨wo, rfl⟩ : ∃ wo : World, wo = wr := ⟨_, rfl⟩
        go_loopw [9] (fun u wr => ∃ k2 m : Nat, k2 ≤ told.size ∧ u = .int .i64 k2 ∧ (∀ j, j < k2 → bAt told j ≠ c) ∧ wr = wo.drewN m) (fun u _ => told.size - (intOf u).toNat)
        case atStart => exact ⟨0, 0, by omega, rfl, fun j hj => by omega, rfl⟩
        case round =>
          obtain ⟨k2, m, hk2', rfl, hno, rfl⟩ := hrel
          have HN2 := Lib.hid hno
          clear hno
          by_cases hlt2 : k2 < told.size
          · have hd0 := bAt_get told k2 hlt2
            have hk3 : (k2 : Int) < (told.size : Int) := by omega
            obtain ⟨d, hd⟩ : ∃ d, bAt told k2 = d := ⟨_, rfl⟩
            rw [hd] at hd0
            have HD := Lib.hid hd
            clear hd
            by_cases hdc : d = c
            · have HR0 := Lib.hid (show letterB toks i (bytesI told) = 0 by rw [HV.out, if_pos (mem_bytesI.2 ⟨k2, hlt2, by rw [HD.out, hdc]⟩)])
              subst hdc
              go_wp2_with fail
              go_quiet (fail)
              go_wp2_with fail
              go_ret
              exact ⟨by rw [HR0.out]; rfl, below_drewN (below_drewN (Below.refl _ _) _) _⟩
            · have hdc2 : (d == c) = false := by simp [hdc]
              go_wp2_with fail
              go_quiet (fail)
              go_wp2_with fail
              go_roundw
              case rel => exact ⟨k2 + 1, _, by omega, by go_num, fun j hj => by
                by_cases e : j = k2
                · subst e; rw [HD.out]; exact hdc
                · exact HN2.out j (by omega), rfl⟩
              case measure => simp [intOf]; omega
          · have HR0 := Lib.hid (show letterB toks i (bytesI told) = c by rw [HV.out, if_neg (by rw [mem_bytesI]; rintro ⟨j, hj, e⟩; exact HN2.out j (by omega) e)])
            have hk3 : (told.size : Int) ≤ (k2 : Int) := by omega
            go_wp2_with fail
            go_ret
            exact ⟨by rw [HR0.out]; rfl, below_drewN (Below.refl _ _) _⟩
    · obtain rfl : k = 12 := by omega
      have hv : letterB toks i (bytesI told) = 0 := letterB_none (fun c hc => by
        obtain ⟨k, hk1, hk2⟩ := HA.out c hc
        rw [← hk2]; exact HN.out k hk1)
      have HV := Lib.hid hv
      clear hv
      go_wp2_with fail
      go_ret
      exact ⟨by rw [HV.out]; rfl, Below.refl _ _⟩
end Go.Proofs.Ytamakeogaipdiaa
/- The document's Same: rows of nodes compared. (Written by program: tools/drafts/gensame.py.) -/
namespace Go.Proofs.Ytamakeogaipdiaa
open Go.RowKit
set_option linter.unusedVariables false
set_option linter.unusedSimpArgs false
theorem rndone_to {m1 m2 : NdM} {x1 x2 : Nd} {v : Bool} (hv : ndB x1 x2 = v) (w : World) (h1 : Shows w m1 x1) (h2 : Shows w m2 x2) : Calls Try.prog 35 #[.agg (encM m1).toArray, .agg (encM m2).toArray] w fun e w' => e = .returned (.bool v) ∧ Below w.heap.size w w' := by
  subst hv; exact rndone_any m1 m2 x1 x2 w h1 h2
set_option maxHeartbeats 4000000 in
set_option maxRecDepth 100000 in
theorem rsame_any (a b : List Nd) (A B : Option Addr) (n m ca cb : Nat) (w : World) (ha : Sees w A n a) (hb : Sees w B m b) : Calls Try.prog 13 #[.slice A n ca, .slice B m cb] w fun e w' => e = .returned (.bool (ndsB a b)) ∧ Below w.heap.size w w' := by
  have hn := ha.bound
  have hm := hb.bound
  have hla := ha.len
  have hlb := hb.len
  by_cases hnm : n = m
  rotate_left
  · have HV := Lib.hid (ndsB_len (a := a) (b := b) (by omega))
    have h1 : ((n : Int) != (m : Int)) = true := by simp; omega
    clear ha hb hla hlb
    go_enter Try.func13, Try.ntmps13
    go_wp2_with fail
    go_ret
    exact ⟨ret_bool (by rw [HV.out]), Below.refl _ _⟩
  subst hnm
  have HA := Lib.hid ha
  have HB := Lib.hid hb
  have h1 : ((n : Int) != (n : Int)) = false := by simp
  clear ha hb
  go_enter Try.func13, Try.ntmps13
  go_wp2_with fail
  go_loopw [5] (fun i wr => ∃ k : Nat, k ≤ n ∧ i = .int .i64 k ∧ (∀ j, j < k → a[j]? = b[j]?) ∧ On w wr) (fun i _ => n - (intOf i).toNat)
  case atStart => exact ⟨0, by omega, rfl, fun j hj => by omega, On.refl w⟩
  case round =>
    obtain ⟨k, hk, rfl, hall, hon⟩ := hrel
    have HL := Lib.hid hall
    have HO := Lib.hid hon
    clear hall hon
    by_cases hlt : k < n
    · obtain ⟨b1, o1, m1, x1, rfl, hb1, e1, r1, s1⟩ := (HA.out.on HO.out).at_ hlt
      obtain ⟨b2, o2, m2, x2, rfl, hb2, e2, r2, s2⟩ := (HB.out.on HO.out).at_ hlt
      have hk2 : (k : Int) < (n : Int) := by omega
      have R1 := Lib.hid (range_on r1)
      have R2 := Lib.hid (range_on r2)
      have S1 := Lib.hid s1
      have S2 := Lib.hid s2
      have E1 := Lib.hid e1
      have E2 := Lib.hid e2
      obtain ⟨v, hv⟩ : ∃ v, ndB x1 x2 = v := ⟨_, rfl⟩
      have HV := Lib.hid hv
      clear r1 r2 s1 s2 e1 e2 hv
      go_wp2_with fail
      refine wp_region_held (S := fun W' => On wr W') (by kernel_rfl) ?_
      show wpAnyH _ _ _ _ _ _ _ _ wr.drew
      have h0 : On wr wr.drew := (On.refl wr).drew
      refine wpAnyH_take (i := 0) (v := ?_) rfl (by kernel_rfl) (by kernel_rfl) (by kernel_rfl) (fun _ _ _ h => h) (Or.inl ⟨by rfl, ?_⟩) h0 ?_
      rotate_left
      · intro w hSw; (try dsimp only at hSw); go_simp; with_reducible rfl
      try simp only [Act.put, List.getElem_toArray, List.getElem_cons_succ, List.getElem_cons_zero, List.setIfInBounds_toArray, List.set_cons_zero, List.set_cons_succ]
      refine wpAnyH_take (i := 1) (v := ?_) rfl (by kernel_rfl) (by kernel_rfl) (by kernel_rfl) (fun _ _ _ h => h) (Or.inl ⟨by rfl, ?_⟩) h0 ?_
      rotate_left
      · intro w hSw; (try dsimp only at hSw); go_simp; with_reducible rfl
      try simp only [Act.put, List.getElem_toArray, List.getElem_cons_succ, List.getElem_cons_zero, List.setIfInBounds_toArray, List.set_cons_zero, List.set_cons_succ]
      refine wpAnyH_take (i := 2) (v := ?_) rfl (by kernel_rfl) (by kernel_rfl) (by kernel_rfl) (fun _ _ _ h => h) (Or.inl ⟨by rfl, ?_⟩) h0 ?_
      rotate_left
      · intro w hSw; (try dsimp only at hSw); go_simp; with_reducible rfl
      try simp only [Act.put, List.getElem_toArray, List.getElem_cons_succ, List.getElem_cons_zero, List.setIfInBounds_toArray, List.set_cons_zero, List.set_cons_succ]
      refine wpAnyH_take (i := 3) (v := ?_) rfl (by kernel_rfl) (by kernel_rfl) (by kernel_rfl) (fun _ _ _ h => h) ?_ h0 ?_
      rotate_left
      · refine yieldsIf_load_mid ?_ 45 (.tmp 19) ?_ b1 (o1 + k * 20) ?_ (encM m1) _ R1.out Try.underlying45 rfl (by kernel_rfl) <;> rfl
      try simp only [Act.put, List.getElem_toArray, List.getElem_cons_succ, List.getElem_cons_zero, List.setIfInBounds_toArray, List.set_cons_zero, List.set_cons_succ]
      refine wpAnyH_take (i := 4) (v := ?_) rfl (by kernel_rfl) (by kernel_rfl) (by kernel_rfl) (fun _ _ _ h => h) (Or.inl ⟨by rfl, ?_⟩) h0 ?_
      rotate_left
      · intro w hSw; (try dsimp only at hSw); go_simp; with_reducible rfl
      try simp only [Act.put, List.getElem_toArray, List.getElem_cons_succ, List.getElem_cons_zero, List.setIfInBounds_toArray, List.set_cons_zero, List.set_cons_succ]
      refine wpAnyH_take (i := 5) (v := ?_) rfl (by kernel_rfl) (by kernel_rfl) (by kernel_rfl) (fun _ _ _ h => h) (Or.inl ⟨by rfl, ?_⟩) h0 ?_
      rotate_left
      · intro w hSw; (try dsimp only at hSw); go_simp; with_reducible rfl
      try simp only [Act.put, List.getElem_toArray, List.getElem_cons_succ, List.getElem_cons_zero, List.setIfInBounds_toArray, List.set_cons_zero, List.set_cons_succ]
      refine wpAnyH_take (i := 6) (v := ?_) rfl (by kernel_rfl) (by kernel_rfl) (by kernel_rfl) (fun _ _ _ h => h) (Or.inl ⟨by rfl, ?_⟩) h0 ?_
      rotate_left
      · intro w hSw; (try dsimp only at hSw); go_simp; with_reducible rfl
      try simp only [Act.put, List.getElem_toArray, List.getElem_cons_succ, List.getElem_cons_zero, List.setIfInBounds_toArray, List.set_cons_zero, List.set_cons_succ]
      refine wpAnyH_take (i := 7) (v := ?_) rfl (by kernel_rfl) (by kernel_rfl) (by kernel_rfl) (fun _ _ _ h => h) ?_ h0 ?_
      rotate_left
      · refine yieldsIf_load_mid ?_ 45 (.tmp 23) ?_ b2 (o2 + k * 20) ?_ (encM m2) _ R2.out Try.underlying45 rfl (by kernel_rfl) <;> rfl
      try simp only [Act.put, List.getElem_toArray, List.getElem_cons_succ, List.getElem_cons_zero, List.setIfInBounds_toArray, List.set_cons_zero, List.set_cons_succ]
      refine wpAnyH_ready (rs := [8]) (by kernel_rfl) (by simp) ?_
      refine AllReadyH.cons rfl (fun K hK => ?_) AllReadyH.nil
      go_simp
      refine (rndone_to HV.out _ (S1.out.below h0) (S2.out.below h0)).mono ?_
      rintro e w5 ⟨rfl, hb5⟩
      refine hK.out _ _ (On.step h0 hb5) (fun h1 => ?_)
      clear hK K
      try simp only [Act.put, List.getElem_toArray, List.getElem_cons_succ, List.getElem_cons_zero, List.setIfInBounds_toArray, List.set_cons_zero, List.set_cons_succ]
      refine wpAnyH_take (i := 9) (v := ?_) rfl (by kernel_rfl) (by kernel_rfl) (by kernel_rfl) (fun _ _ _ h => h) (Or.inl ⟨by rfl, ?_⟩) h1 ?_
      rotate_left
      · intro w hSw; (try dsimp only at hSw); go_simp; with_reducible rfl
      try simp only [Act.put, List.getElem_toArray, List.getElem_cons_succ, List.getElem_cons_zero, List.setIfInBounds_toArray, List.set_cons_zero, List.set_cons_succ]
      refine wpAnyH_done (by kernel_rfl) ?_ _
      have HO5 := Lib.hid (below_then HO.out h1)
      clear h0 h1 hb5
      cases v with
      | true =>
        have hxx := (ndB_iff x1 x2).1 HV.out
        subst hxx
        go_wp2_with fail
        go_roundw
        case rel => exact ⟨k + 1, by omega, by go_num, fun j hj => by
          by_cases e : j = k
          · subst e; rw [E1.out, E2.out]
          · exact HL.out j (by omega), HO5.out⟩
        case measure => simp [intOf]; omega
      | false =>
        have HW := Lib.hid (ndsB_ne E1.out E2.out (fun e => by have := (ndB_iff x1 x2).2 e; rw [HV.out] at this; cases this))
        go_wp2_with fail
        go_ret
        exact ⟨ret_bool (by rw [HW.out]), HO5.out⟩
    · have HW := Lib.hid (ndsB_all (a := a) (b := b) (by omega) (fun j hj => HL.out j (by omega)))
      go_wp2_with fail
      go_ret
      exact ⟨ret_bool (by rw [HW.out]), HO.out⟩
end Go.Proofs.Ytamakeogaipdiaa
/- The program's package valid: the row of what is open. -/
namespace Go.Proofs.Ytamakeogaipdiaa
open Go.RowKit
set_option linter.unusedVariables false
set_option linter.unusedSimpArgs false
def cntL (s : Sm) (A : Option Addr) (k c : Nat) : List Value := [.int .i64 s.depth, .int .i64 s.pieces, .int .i64 s.nodes, .int .i64 s.heights, .slice A k c]
/-- what has been counted lies in block D; what is open in a row of the call's own. -/
structure Cnt (base D : Nat) (w : World) (s : Sm) (A : Option Addr) (k c : Nat) (es : List Int) : Prop where
  blk : Blk w D 90 (cntL s A k c)
  row : w.ownsRow base 3 1 (.slice A k c) k (es.map (Value.int .i64))
theorem Cnt.len {base D : Nat} {w : World} {s : Sm} {A : Option Addr} {k c : Nat} {es : List Int} (h : Cnt base D w s A k c es) : es.length = k := by
  have := h.row.1
  simpa using this
theorem Cnt.ints {base D : Nat} {w : World} {s : Sm} {A : Option Addr} {k c : Nat} {es : List Int} (h : Cnt base D w s A k c es) : Ints w A k es := (ownsRow_cells h.row).ints
theorem Cnt.on {base D : Nat} {w w' : World} {s : Sm} {A : Option Addr} {k c : Nat} {es : List Int} (h : Cnt base D w s A k c es) (hb : On w w') : Cnt base D w' s A k c es := ⟨h.blk.on hb, owns_below h.row hb⟩
theorem Cnt.cap {base D : Nat} {w : World} {s : Sm} {A : Option Addr} {k c : Nat} {es : List Int} (h : Cnt base D w s A k c es) : k ≤ c ∧ c ≤ 9223372036854775807 := by
  rcases h.row.2 with ⟨h1, h2⟩ | ⟨g, cap, cur, h1, _, _, h2, h3, _⟩
  · injection h1 with _ h1 h3; omega
  · injection h1 with _ _ h1
    unfold maxLen at h3
    omega
/-- only block D has turned. -/
structure OnlyAt (D : Nat) (w w' : World) : Prop where
  below : Below D w w'
  size : w'.heap.size = w.heap.size
  block : ∀ k, k ≠ D → w'.heap[k]? = w.heap[k]?
theorem OnlyAt.refl (D : Nat) (w : World) : OnlyAt D w w := ⟨Below.refl _ _, rfl, fun _ _ => rfl⟩
theorem OnlyAt.drewN {D : Nat} {w w' : World} (h : OnlyAt D w w') (n : Nat) : OnlyAt D w (w'.drewN n) := ⟨below_drewN h.below n, h.size, h.block⟩
theorem OnlyAt.drew {D : Nat} {w w' : World} (h : OnlyAt D w w') : OnlyAt D w w'.drew := ⟨h.below.drew, h.size, h.block⟩
theorem OnlyAt.set {D : Nat} {w w' : World} (h : OnlyAt D w w') (j : Nat) (v : Value) : OnlyAt D w (w'.setCell ⟨D, j, none⟩ v) :=
  ⟨h.below.setCell (Nat.le_refl _) v, by simp [h.size], fun k hk => (Below.heap_setCell _ _ _ _ hk).trans (h.block k hk)⟩
theorem OnlyAt.blk {D g : Nat} {w w' : World} {t : TypeId} {vs : List Value} (h : OnlyAt D w w') (hg : g ≠ D) (hb : Blk w g t vs) : Blk w' g t vs := (h.block g hg).trans hb
theorem owns_only {D base : Nat} {w w' : World} {e t : TypeId} {size : Nat} {v : Value} {n : Nat} {xs vs : List Value} (h : w.ownsRow base e size v n xs) (ho : OnlyAt D w w') (hD : Blk w D t vs) (ht : e ≠ t) : w'.ownsRow base e size v n xs := by
  refine ⟨h.1, ?_⟩
  rcases h.2 with h2 | ⟨g, cap, cur, h1, h2, h3, h4⟩
  · exact .inl h2
  · refine .inr ⟨g, cap, cur, h1, h2, (ho.block g (fun e => ?_)).trans h3, h4⟩
    subst e
    rw [show w.heap[g]? = _ from hD] at h3
    injection h3 with h3
    injection h3 with _ h3 _
    exact ht h3.symm
theorem owns_take {base : Nat} {w : World} {e : TypeId} {A : Option Addr} {n c : Nat} {xs : List Value} (h : w.ownsRow base e 1 (.slice A n c) n xs) {k : Nat} (hk : k ≤ n) : w.ownsRow base e 1 (.slice A k c) k (xs.take k) := by
  have hl := h.1
  refine ⟨by rw [List.length_take]; omega, ?_⟩
  rcases h.2 with ⟨h1, h2⟩ | ⟨g, cap, cur, h1, h2, h3, h4, h5, h6, h7⟩
  · injection h1 with h1 _ h3
    subst h1 h3
    obtain rfl : k = 0 := by omega
    exact .inl ⟨rfl, rfl⟩
  · injection h1 with h1 _ h8
    subst h1 h8
    refine .inr ⟨g, c, cur, rfl, h2, h3, by omega, h5, h6, ?_⟩
    rw [← h7, List.take_take]
    congr 1
    omega
theorem Cnt.below {base D : Nat} {w w' : World} {s : Sm} {A : Option Addr} {k c : Nat} {es : List Int} (h : Cnt base D w s A k c es) (hb : Below w.heap.size w w') : Cnt base D w' s A k c es := h.on hb
theorem pend_any (base D : Nat) (w : World) (s : Sm) (A : Option Addr) (k c : Nat) (es : List Int) (z : Int) (h : Cnt base D w s A (k + 1) c es) (hz : es[k]? = some z) : Calls Try.prog 72 #[.pointer (some ⟨D, 0, none⟩)] w fun e w' => e = .returned (.int .i64 z) ∧ ∃ q, w' = w.drewN q := by
  have hI := h.ints
  obtain ⟨b1, o1, rfl, hc1⟩ := hI.at_ (Nat.lt_succ_self k)
  rw [show es[k]?.getD 0 = z by rw [hz]; rfl] at hc1
  have c4 := h.blk.box.2.2 4 _ rfl
  have hcap := h.cap
  have hk : k + 1 ≤ 9223372036854775807 := by omega
  clear h hI hz hcap
  go_enter Try.func72, Try.ntmps72
  go_wp2_with fail
  go_quiet (fail)
  go_wp2_with fail
  go_ret
  exact ⟨rfl, _, rfl⟩
theorem pend_to {base D : Nat} {w : World} {s : Sm} {A : Option Addr} {k c : Nat} {es : List Int} {z : Int} (h : Cnt base D w s A (k + 1) c es) (hz : es[k]? = some z) : Calls Try.prog 72 #[.pointer (some ⟨D, 0, none⟩)] w fun e w' => e = .returned (.int .i64 z) ∧ ∃ q, w' = w.drewN q := pend_any base D w s A k c es z h hz
theorem Cnt.drewN {base D : Nat} {w : World} {s : Sm} {A : Option Addr} {k c : Nat} {es : List Int} (h : Cnt base D w s A k c es) (q : Nat) : Cnt base D (w.drewN q) s A k c es := h.on (below_drewN (Below.refl _ _) q)
set_option maxHeartbeats 4000000 in
theorem pleave_any (base D : Nat) (w : World) (s : Sm) (A : Option Addr) (c : Nat) (ks : List Int) (i z : Int) (m : Nat) (h : Cnt base D w s A (ks.length + m) c (ks ++ List.replicate m i)) (hz : ks.getLast? = some z) (hne : z ≠ i) :
    Calls Try.prog 70 #[.pointer (some ⟨D, 0, none⟩), .int .i64 i] w fun e w' => e = .returned (.tuple #[]) ∧ Cnt base D w' s A ks.length c ks ∧ OnlyAt D w w' := by
  have H := Lib.hid h
  have HZ := Lib.hid hz
  have HN := Lib.hid hne
  clear h hz hne
  go_enter Try.func70, Try.ntmps70
  go_wp2_with fail
  go_loopg [] m (fun k wr => k ≤ m ∧ Cnt base D wr s A (ks.length + k) c (ks ++ List.replicate k i) ∧ OnlyAt D w wr)
  case atStart => exact ⟨Nat.le_refl _, H.out, OnlyAt.refl _ _⟩
  case round =>
    obtain ⟨hk, hC, hO⟩ := hrel
    have HC := Lib.hid hC
    have HO := Lib.hid hO
    clear hC hO
    cases gk with
    | zero =>
      obtain ⟨j, hj⟩ : ∃ j, ks.length = j + 1 := ⟨ks.length - 1, by
        have : ks ≠ [] := fun e => by rw [e] at HZ; cases HZ.out
        have := List.length_pos_iff.2 this
        omega⟩
      have hC := HC.out
      simp only [Nat.add_zero, List.replicate_zero, List.append_nil] at hC
      have HC1 := Lib.hid hC
      have hC2 : Cnt base D wr s A (j + 1) c ks := by rw [← hj]; exact hC
      have hz2 : ks[j]? = some z := by rw [← HZ.out, List.getLast?_eq_getElem?, hj]; rfl
      have HC2 := Lib.hid hC2
      have HZ2 := Lib.hid hz2
      have hzi : (z == i) = false := by simpa using HN.out
      clear hC hC2 hz2 hj
      go_wp2_with fail
      refine (pend_to HC2.out HZ2.out).mono ?_
      rintro e w1 ⟨rfl, q, rfl⟩
      go_wp2_with fail
      go_returns
      exact ⟨rfl, HC1.out.drewN q, HO.out.drewN q⟩
    | succ g =>
      obtain ⟨r, hr⟩ : ∃ r, ks.length + g = r := ⟨_, rfl⟩
      have hC2 : Cnt base D wr s A (r + 1) c (ks ++ List.replicate (g + 1) i) := by rw [← hr]; exact HC.out
      have hz2 : (ks ++ List.replicate (g + 1) i)[r]? = some i := by
        rw [List.getElem?_append_right (by omega), List.getElem?_replicate]
        rw [if_pos (by omega)]
      have HC2 := Lib.hid hC2
      have HZ2 := Lib.hid hz2
      have HR := Lib.hid hr
      clear hC2 hz2 hr
      go_wp2_with fail
      refine (pend_to HC2.out HZ2.out).mono ?_
      rintro e w1 ⟨rfl, q, rfl⟩
      have hC3 := HC2.out.drewN q
      have hO3 := HO.out.drewN q
      generalize wr.drewN q = V at hC3 hO3
      have c4 := hC3.blk.box.2.2 4 _ rfl
      have f4 := hC3.blk.box.2.1 4
      have hcap := hC3.cap
      have hlt := hC3.blk.box.1
      obtain ⟨hc1, hc2⟩ := hcap
      have HC3 := Lib.hid hC3
      have HO3 := Lib.hid hO3
      clear hC3 hO3
      go_wp2_with fail
      go_region
      go_wp2_with fail
      go_roundg g
      case rel =>
        have hO4 : OnlyAt D V (V.setCell ⟨D, 4, none⟩ (.slice A r c)).drew := ((OnlyAt.refl D V).set 4 _).drew
        refine ⟨by omega, ⟨?_, ?_⟩, (HO3.out.set 4 _).drew⟩
        · rw [HR.out]
          exact (HC3.out.blk.set 4 (.slice A r c)).drew
        · have h1 := owns_take HC3.out.row (Nat.le_succ r)
          have h2 := owns_only h1 hO4 HC3.out.blk (by decide)
          have e : ((ks ++ List.replicate (g + 1) i).map (Value.int .i64)).take r = (ks ++ List.replicate g i).map (Value.int .i64) := by
            rw [← List.map_take]
            congr 1
            rw [← HR.out, List.take_length_add_append, List.take_replicate]
            congr 2
            omega
          rw [e] at h2
          rw [HR.out]
          exact h2
      case measure => omega
end Go.Proofs.Ytamakeogaipdiaa
/- The document's Own: nodes in memory of their own. (Written by program: tools/drafts/genown.py.) -/
namespace Go.Proofs.Ytamakeogaipdiaa
open Go.RowKit
set_option linter.unusedVariables false
set_option linter.unusedSimpArgs false
theorem int_infoOwn : (Try.prog.info? 3).map (fun i => (i.zero, i.size, i.bytes)) = some (some (.int .i64 0), 1, 8) := by kernel_rfl
set_option maxHeartbeats 4000000 in
set_option maxRecDepth 100000 in
theorem rown_any (l : List Nd) (A : Option Addr) (n ca : Nat) (w : World) (hl : Sees w A n l) (hn : n ≤ 600000) (hW : ∀ x ∈ l, x.words.length ≤ 600000) : Calls Try.prog 8 #[.slice A n ca] w fun e w' => ∃ A' c', e = .returned (.slice A' n c') ∧ Nds w.heap.size w' A' n l ∧ Below w.heap.size w w' := by
  obtain ⟨j0, hj0, hy0, hy1, hy2⟩ := info_parts node_info5
  obtain ⟨i0, hi0, hz0, hz1, hz2⟩ := info_parts int_infoOwn
  have hla := hl.len
  have HA := Lib.hid hl
  have HWd := Lib.hid hW
  clear hl hW
  obtain ⟨D, hD⟩ : ∃ D, w.heap.size = D := ⟨_, rfl⟩
  rw [hD]
  go_enter Try.func8, Try.ntmps8
  go_wp2_with fail
  go_loopw [3, 4] (fun o i wr => ∃ (k c1 : Nat) (A1 : Option Addr) (zs : List NdM), k ≤ n ∧ i = .int .i64 k ∧ o = .slice A1 k c1 ∧ wr.ownsRow D 45 20 (.slice A1 k c1) k (zs.flatMap encM) ∧ Holds2 D wr zs (l.take k) ∧ On w wr) (fun _ i _ => n - (intOf i).toNat)
  case atStart => exact ⟨0, 0, none, [], by omega, rfl, rfl, owns_nil _ _ _ _, by simpa using Holds2.nil D w, On.refl w⟩
  case round =>
    obtain ⟨k, c1, A1, zs, hk, rfl, rfl, hown, hh, hon⟩ := hrel
    have HOw := Lib.hid hown
    have HH := Lib.hid hh
    have HO := Lib.hid hon
    have hsz := hon.size
    clear hown hh hon
    by_cases hlt : k < n
    · obtain ⟨b1, o1, m1, x1, rfl, hb1, e1, r1, s1⟩ := (HA.out.on HO.out).at_ hlt
      have hk2 : (k : Int) < (n : Int) := by omega
      have R1 := Lib.hid (range_on r1)
      have S1 := Lib.hid s1
      have E1 := Lib.hid e1
      have hwl : m1.n ≤ 600000 := by rw [← s1.2.1]; exact HWd.out _ (List.mem_of_getElem? e1)
      clear r1 s1 e1
      go_wp2_with (first | ((with_reducible refine stop_load 45 (.tmp 14) ?_ ?_); exact rfl; refine Stop.intro ?_; refine wpList_load_mid rfl 45 (.tmp 14) rfl b1 (o1 + k * 20) rfl (encM m1) _ (R1.out wr (On.refl wr)) Try.underlying45 rfl (by kernel_rfl) ?_) | ((with_reducible refine stop_store 45 (.tmp 5) (.tmp 15) ?_ ?_); exact rfl))
      refine Stop.intro ?_
      refine wpList_store_row rfl 45 (.tmp 5) (.tmp 15) rfl wr.heap.size rfl 45 #[.int .i64 0, .int .i64 0, .int .i64 0, .int .i64 0, .int .i64 0, .int .i64 0, .int .i64 0, .int .i64 0, .int .i64 0, .int .i64 0, .int .i64 0, .int .i64 0, .int .i64 0, .int .i64 0, .int .i64 0, .int .i64 0, .slice none 0 0, .int .i64 0, .int .i64 0, .int .i64 0] (encM m1).toArray rfl (Blk.new wr 45 [.int .i64 0, .int .i64 0, .int .i64 0, .int .i64 0, .int .i64 0, .int .i64 0, .int .i64 0, .int .i64 0, .int .i64 0, .int .i64 0, .int .i64 0, .int .i64 0, .int .i64 0, .int .i64 0, .int .i64 0, .int .i64 0, .slice none 0 0, .int .i64 0, .int .i64 0, .int .i64 0] _ rfl _ rfl) (by kernel_rfl) rfl (by rw [List.all_toArray]; exact List.all_eq_true.2 (encM_one m1)) ?_
      intro V hV
      have hVs : V.heap.size = wr.heap.size + 1 := by rw [hV, setRow_size]; simp
      have hbV : On wr V := by rw [hV]; exact below_setRow ((Below.refl _ _).alloc (Nat.le_refl _) _) (Nat.le_refl _) _
      have HK1 := Lib.hid (show Blk V wr.heap.size 45 (encM m1) by rw [hV]; exact Blk.row (Blk.new wr 45 [.int .i64 0, .int .i64 0, .int .i64 0, .int .i64 0, .int .i64 0, .int .i64 0, .int .i64 0, .int .i64 0, .int .i64 0, .int .i64 0, .int .i64 0, .int .i64 0, .int .i64 0, .int .i64 0, .int .i64 0, .int .i64 0, .slice none 0 0, .int .i64 0, .int .i64 0, .int .i64 0] _ rfl _ rfl) _ _ rfl)
      have x16 : V.cell? ⟨b1, o1 + k * 20 + 16, none⟩ = some (.slice m1.A m1.n m1.c) := R1.out V hbV 16 _ rfl
      clear hV
      go_wp2_with ((with_reducible refine stop_dst 22 ?_ ?_); exact rfl)
      refine Stop.intro ?_
      have hbU : On wr (V.alloc (.cells #[] 3)) := On.alloc hbV _
      have hO0 : (V.alloc (.cells #[] 3)).ownsRow (wr.heap.size + 1) 3 1 (.slice (some ⟨wr.heap.size + 1, 0, none⟩) 0 0) 0 [] := ⟨rfl, .inr ⟨wr.heap.size + 1, 0, #[], rfl, Nat.le_refl _, by rw [← hVs]; exact World.alloc_heap_new V _, Nat.le_refl _, Nat.zero_le _, rfl, rfl⟩⟩
      have hI := (S1.out.below hbU).2
      have hIc := hI.cells
      have hIl := hI.1
      have hUs : (V.alloc (.cells #[] 3)).heap.size = wr.heap.size + 2 := by simp; omega
      refine wpList_append_cells _ rfl (.tmp 16) (.tmp 21) _ rfl (wr.heap.size + 1) 3 i0 (.int .i64 0) 1 8 Try.underlying23 hi0 hz0 hz1 hz2 rfl (by decide) (.slice (some ⟨wr.heap.size + 1, 0, none⟩) 0 0) 0 _ rfl hO0 m1.A m1.n m1.c _ rfl hIc (by intro u hu; obtain ⟨z, _, rfl⟩ := List.mem_map.1 hu; rfl) (by unfold maxLen; omega) (by omega) (by rw [hUs]; omega) ?_
      intro A2 c2 V2 hown2 hg2
      rw [Nat.zero_add] at hown2
      have hV2s : wr.heap.size + 2 ≤ V2.heap.size := by rw [← hUs]; exact hg2.size
      have hbV2 : On wr V2 := hbU.grown hg2 (by rw [hUs]; omega) (fun r e => by cases e; simp only; omega)
      have hK2 : Blk V2 wr.heap.size 45 (encM m1) := (HK1.out.alloc _).grown hg2 (fun r e => by cases e; simp only; omega)
      let m2 : NdM := { m1 with A := A2, c := c2 }
      have hK3 : Blk (V2.setCell ⟨wr.heap.size, 16, none⟩ (.slice A2 m1.n c2)) wr.heap.size 45 (encM m2) := hK2.set 16 _
      have hb3 : On wr (V2.setCell ⟨wr.heap.size, 16, none⟩ (.slice A2 m1.n c2)) := Below.setCell hbV2 (p := ⟨wr.heap.size, 16, none⟩) (Nat.le_refl _) _
      have hw3 := owns_set hown2 (m := wr.heap.size) (by omega) 16 (.slice A2 m1.n c2)
      have f16 := hK2.box.2.1 16
      have g16 := hK2.box.2.2 16 _ rfl
      have HK3 := Lib.hid hK3
      have HB3 := Lib.hid hb3
      have HW3 := Lib.hid hw3
      clear hK2 hK3 hb3 hw3 hown2 hg2 hO0 hI hIc hbU hbV hbV2 HK1 x16
      simp only [Nat.zero_add]
      go_wp2_with (first | ((with_reducible refine stop_load 45 (.tmp 5) ?_ ?_); exact rfl; refine Stop.intro ?_; refine Go.Proofs.Ytamakeogaipdiaa.wpList_load_row rfl 45 (.tmp 5) rfl (wr.heap.size) rfl 45 #[.int .i64 m1.kind, .int .i64 m1.size, .int .i64 m1.sty.top, .int .i64 m1.sty.bottom, .int .i64 m1.sty.padTop, .int .i64 m1.sty.padBottom, .int .i64 m1.sty.inset, .int .i64 m1.sty.orphans, .int .i64 m1.sty.widows, .int .i64 m1.sty.head, .int .i64 m1.sty.before, .int .i64 m1.sty.after, .int .i64 m1.sty.inside, .int .i64 m1.sty.clear, .int .i64 m1.line, .int .i64 m1.space, .slice A2 m1.n c2, .int .i64 m1.side, .int .i64 m1.w, .int .i64 m1.h] _ (HK3.out) Try.underlying45 rfl (by kernel_rfl) ?_) | ((with_reducible refine stop_dst 27 ?_ ?_); exact rfl))
      refine Stop.intro ?_
      have hV3s : (V2.setCell ⟨wr.heap.size, 16, none⟩ (.slice A2 m1.n c2)).heap.size = V2.heap.size := by simp
      have hO4 : ((V2.setCell ⟨wr.heap.size, 16, none⟩ (.slice A2 m1.n c2)).alloc (.cells #[.int .i64 m1.kind, .int .i64 m1.size, .int .i64 m1.sty.top, .int .i64 m1.sty.bottom, .int .i64 m1.sty.padTop, .int .i64 m1.sty.padBottom, .int .i64 m1.sty.inset, .int .i64 m1.sty.orphans, .int .i64 m1.sty.widows, .int .i64 m1.sty.head, .int .i64 m1.sty.before, .int .i64 m1.sty.after, .int .i64 m1.sty.inside, .int .i64 m1.sty.clear, .int .i64 m1.line, .int .i64 m1.space, .slice A2 m1.n c2, .int .i64 m1.side, .int .i64 m1.w, .int .i64 m1.h] 45)).ownsRow D 45 20 (.slice A1 k c1) k (zs.flatMap encM) := owns_below (owns_below HOw.out HB3.out) ((Below.refl _ _).alloc (Nat.le_refl _) _)
      have hb4 : On wr ((V2.setCell ⟨wr.heap.size, 16, none⟩ (.slice A2 m1.n c2)).alloc (.cells #[.int .i64 m1.kind, .int .i64 m1.size, .int .i64 m1.sty.top, .int .i64 m1.sty.bottom, .int .i64 m1.sty.padTop, .int .i64 m1.sty.padBottom, .int .i64 m1.sty.inset, .int .i64 m1.sty.orphans, .int .i64 m1.sty.widows, .int .i64 m1.sty.head, .int .i64 m1.sty.before, .int .i64 m1.sty.after, .int .i64 m1.sty.inside, .int .i64 m1.sty.clear, .int .i64 m1.line, .int .i64 m1.space, .slice A2 m1.n c2, .int .i64 m1.side, .int .i64 m1.w, .int .i64 m1.h] 45)) := On.alloc HB3.out _
      have hc4 : Cells ((V2.setCell ⟨wr.heap.size, 16, none⟩ (.slice A2 m1.n c2)).alloc (.cells #[.int .i64 m1.kind, .int .i64 m1.size, .int .i64 m1.sty.top, .int .i64 m1.sty.bottom, .int .i64 m1.sty.padTop, .int .i64 m1.sty.padBottom, .int .i64 m1.sty.inset, .int .i64 m1.sty.orphans, .int .i64 m1.sty.widows, .int .i64 m1.sty.head, .int .i64 m1.sty.before, .int .i64 m1.sty.after, .int .i64 m1.sty.inside, .int .i64 m1.sty.clear, .int .i64 m1.line, .int .i64 m1.space, .slice A2 m1.n c2, .int .i64 m1.side, .int .i64 m1.w, .int .i64 m1.h] 45)) (some ⟨V2.heap.size, 0, none⟩) 1 20 (encM m2) := by
        have h := ownsRow_cells (owns_one (w := V2.setCell ⟨wr.heap.size, 16, none⟩ (.slice A2 m1.n c2)) (e := 45) (size := 20) (base := 0) (encM m2) rfl (by decide) (Nat.zero_le _) (encM_one m2) _ rfl _ rfl)
        rw [hV3s] at h
        exact h
      have hw4 := owns_below HW3.out ((Below.refl _ _).alloc (Nat.le_refl _) (.cells #[.int .i64 m1.kind, .int .i64 m1.size, .int .i64 m1.sty.top, .int .i64 m1.sty.bottom, .int .i64 m1.sty.padTop, .int .i64 m1.sty.padBottom, .int .i64 m1.sty.inset, .int .i64 m1.sty.orphans, .int .i64 m1.sty.widows, .int .i64 m1.sty.head, .int .i64 m1.sty.before, .int .i64 m1.sty.after, .int .i64 m1.sty.inside, .int .i64 m1.sty.clear, .int .i64 m1.line, .int .i64 m1.space, .slice A2 m1.n c2, .int .i64 m1.side, .int .i64 m1.w, .int .i64 m1.h] 45))
      have hh4 := (HH.out.below HB3.out).below ((Below.refl _ _).alloc (Nat.le_refl _) (.cells #[.int .i64 m1.kind, .int .i64 m1.size, .int .i64 m1.sty.top, .int .i64 m1.sty.bottom, .int .i64 m1.sty.padTop, .int .i64 m1.sty.padBottom, .int .i64 m1.sty.inset, .int .i64 m1.sty.orphans, .int .i64 m1.sty.widows, .int .i64 m1.sty.head, .int .i64 m1.sty.before, .int .i64 m1.sty.after, .int .i64 m1.sty.inside, .int .i64 m1.sty.clear, .int .i64 m1.line, .int .i64 m1.space, .slice A2 m1.n c2, .int .i64 m1.side, .int .i64 m1.w, .int .i64 m1.h] 45))
      have hz4 := hO4.1
      rw [flat_len encM_len] at hz4
      refine wpList_append_cells _ rfl (.tmp 24) (.tmp 26) _ rfl D 45 j0 (.agg #[.int .i64 0, .int .i64 0, .int .i64 0, .int .i64 0, .int .i64 0, .int .i64 0, .int .i64 0, .int .i64 0, .int .i64 0, .int .i64 0, .int .i64 0, .int .i64 0, .int .i64 0, .int .i64 0, .int .i64 0, .int .i64 0, .slice none 0 0, .int .i64 0, .int .i64 0, .int .i64 0]) 20 176 Try.underlying22 hj0 hy0 hy1 hy2 rfl (by decide) (.slice A1 k c1) k _ rfl hO4 (some ⟨V2.heap.size, 0, none⟩) 1 1 _ rfl hc4 (encM_one m2) (by unfold maxLen; omega) (by omega) (by have := hb4.size; omega) ?_
      intro A5 c5 V5 hown5 hg5
      have hblk := owns_block hO4
      have hb5 : Below D w V5 := (HO.out.mono (by omega)).trans ((hb4.mono (by omega)).grown hg5 (by have := hb4.size; omega) (fun r e => hblk r e))
      have hh5 := hh4.grown hO4 (by decide) hg5
      have hw5 := owns_grown hw4 hO4 (by decide) hg5
      have hfl : (zs ++ [m2]).flatMap encM = zs.flatMap encM ++ encM m2 := by simp
      have HO5 := Lib.hid (show V5.ownsRow D 45 20 (.slice A5 (k + 1) c5) (k + 1) ((zs ++ [m2]).flatMap encM) by rw [hfl]; exact hown5)
      have hx2 : Holds D V5 m2 x1 := ⟨S1.out.1, by
        have := owns_up hw5 (base' := D) (by omega)
        exact this⟩
      have HH5 := Lib.hid (show Holds2 D V5 (zs ++ [m2]) (l.take (k + 1)) by
        have := hh5.append (Holds2.one hx2)
        rw [List.take_add_one, E1.out]
        exact this)
      have HB5 := Lib.hid (show On w V5 by rw [On, hD]; exact hb5)
      clear hO4 hb4 hc4 hw4 hh4 hz4 hown5 hg5 hblk hb5 hh5 hw5 hfl hx2
      go_wp2_with fail
      go_roundw
      case rel => exact ⟨k + 1, c5, A5, zs ++ [m2], by omega, by go_num, rfl, HO5.out, HH5.out, HB5.out⟩
      case measure => simp [intOf]; omega
    · have hk2 : (n : Int) ≤ (k : Int) := by omega
      obtain rfl : k = n := by omega
      go_wp2_with fail
      go_returns
      exact ⟨A1, c1, rfl, ⟨zs, ownsRow_rows encM_len (by decide) HOw.out, by have := HH.out; rw [List.take_of_length_le (by omega)] at this; exact this, Far.owns HOw.out⟩, by rw [← hD]; exact HO.out⟩
end Go.Proofs.Ytamakeogaipdiaa
