import Derived.Test.YtdjnaejblgheoaaGreatJP04
import Derived.Deep.MidRow
import Derived.Test.YtdjnaejblgheoaaGreatJP01
import Derived.Test.YtdjnaejblgheoaaGreatJP03
import Derived.Test.YtdjnaejblgheoaaGreatJP05
import Derived.Test.YtdjnaejblgheoaaGreatJP00
import Derived.Deep.QuietTactic
import Derived.BigQuiet
import Derived.Test.YtdjnaejblgheoaaGreatJP06
import Derived.Test.YtdjnaejblgheoaaGreatJP07
import Derived.Deep.LoopGhost
import Derived.BigRegion
import Derived.RangeFuncBox
import Derived.RangeFuncNested
import Derived.RangeFuncBound
import Derived.RangeFuncCalls
import Derived.RangeFuncLeaves
import Derived.Shelf.Abstract
import Derived.Shelf.RegionOpen
import Derived.WalkKit
import Derived.OwnWalkIn
import Derived.TacticsInMore
import Derived.LoopNIn
import Derived.LoopIn
import Derived.BigRegionIn
/- The document's answers for package bands: the lowest float. -/
namespace Go.Proofs.YtdjnaejblgheoaaGreat
open Go.RowKit
set_option linter.unusedVariables false
set_option linter.unusedSimpArgs false
end Go.Proofs.YtdjnaejblgheoaaGreat
/- The document's answers for package bands: rows of floats that are the same. -/
namespace Go.Proofs.YtdjnaejblgheoaaGreat
open Go.RowKit
set_option linter.unusedVariables false
set_option linter.unusedSimpArgs false
theorem partf_int (xs : Array Value) (k : Nat) (v : Value) (h : xs[k]? = some v) (w : World) : (part 3 xs k).run Tryz.prog w = .ok v w := run_part_plain w (by kernel_rfl) h
theorem itef_ok {p : Prop} [Decidable p] {c : Bool} {w : World} : (if p then Result.ok c w else Result.ok false w) = Result.ok (decide p && c) w := by split <;> simp_all
theorem itef_and {b : Bool} {c : Bool} {w : World} : (if (!b) = true then Result.ok false w else Result.ok c w) = Result.ok (b && c) w := by cases b <;> rfl
theorem fl_same (f0 f1 f2 f3 f4 f5 f6 : Int) (w : World) : (Op.equalIn 10000 42 (.agg #[.int .i64 f0, .int .i64 f1, .int .i64 f2, .int .i64 f3, .int .i64 f4, .int .i64 f5, .int .i64 f6]) (.agg #[.int .i64 f0, .int .i64 f1, .int .i64 f2, .int .i64 f3, .int .i64 f4, .int .i64 f5, .int .i64 f6])).run Tryz.prog w = .ok true w := by
  rw [show (10000 : Nat) = 9999 + 1 from rfl, run_equalIn_struct w 9999 _ _ _ (by kernel_rfl) (by kernel_rfl)]
  have hi : ∀ (a b : Int) (w : World), (Op.equalIn 9999 3 (.int .i64 a) (.int .i64 b)).run Tryz.prog w = .ok (a == b) w := fun a b w => run_equalIn_int w 9998 3 .i64 .i64 a b Tryz.underlying3
  simp [Program.fieldsOf, Tryz.underlying42, Op.eqFields, partf_int, hi, itef_and]
theorem sp_equal (a0 a1 b0 b1 : Int) (w : World) : (Op.equalIn 10000 94 (.agg #[.int .i64 a0, .int .i64 a1]) (.agg #[.int .i64 b0, .int .i64 b1])).run Tryz.prog w = .ok (a0 == b0 && a1 == b1) w := by
  rw [show (10000 : Nat) = 9999 + 1 from rfl, run_equalIn_struct w 9999 _ _ _ (by kernel_rfl) (by kernel_rfl)]
  have hi : ∀ (a b : Int) (w : World), (Op.equalIn 9999 3 (.int .i64 a) (.int .i64 b)).run Tryz.prog w = .ok (a == b) w := fun a b w => run_equalIn_int w 9998 3 .i64 .i64 a b Tryz.underlying3
  simp [Program.fieldsOf, Tryz.underlying94, Op.eqFields, partf_int, hi, itef_and]
  simp only [itef_ok]
  congr 1
  rw [Bool.eq_iff_iff]
  simp [and_assoc]
set_option maxHeartbeats 4000000 in
set_option maxRecDepth 100000 in
/-- two rows of the same floats are the same. -/
theorem fls_same {l : List Fl} {A B : Option Addr} {n m c d : Nat} {w : World} (h1 : Rows 7 encFl w A n l) (h2 : Rows 7 encFl w B m l) :
    Calls Tryz.prog 30 #[.slice A n c, .slice B m d] w fun e w' => e = .returned (.bool true) ∧ Below w.heap.size w w' := by
  have hn := h1.2.1
  obtain rfl : n = m := h1.1.symm.trans h2.1
  have H1 := Lib.hid h1
  have H2 := Lib.hid h2
  clear h1 h2
  have hq : ((n : Int) != (n : Int)) = false := by simp
  go_enter Tryz.func30, Tryz.ntmps30
  go_wp2_with fail
  go_loopw [5] (fun i wr => ∃ k m : Nat, k ≤ n ∧ i = .int .i64 k ∧ wr = w.drewN m) (fun i _ => n - (intOf i).toNat)
  case atStart => exact ⟨0, 0, by omega, rfl, rfl⟩
  case round =>
    obtain ⟨k, m, hk, rfl, rfl⟩ := hrel
    by_cases hlt : k < n
    · have hk2 : (k : Int) < (n : Int) := by omega
      obtain ⟨b, off, f, rfl, hbl, hf, q0, q1, q2, q3, q4, q5, q6⟩ := fl_at H1.out hlt
      obtain ⟨b', off', f', rfl, hbl', hf', p0, p1, p2, p3, p4, p5, p6⟩ := fl_at H2.out hlt
      rw [hf] at hf'
      injection hf' with e1
      subst e1
      obtain ⟨f0, f1, f2, f3, f4, f5, f6⟩ := f
      simp only at q0 q1 q2 q3 q4 q5 q6 p0 p1 p2 p3 p4 p5 p6
      have he := fl_same f0 f1 f2 f3 f4 f5 f6
      clear hf
      go_wp2_with fail
      go_quiet (fail)
      go_wp2_with fail
      go_roundw
      case rel => exact ⟨k + 1, _, by omega, by go_num, rfl⟩
      case measure => simp [intOf]; omega
    · have hk2 : (n : Int) ≤ (k : Int) := by omega
      go_wp2_with fail
      go_ret
      exact ⟨rfl, below_drewN (Below.refl _ _) m⟩
end Go.Proofs.YtdjnaejblgheoaaGreat
/- The document's answers for package flow: galleys that are the same; nodes that are many. -/
namespace Go.Proofs.YtdjnaejblgheoaaGreat
open Go.RowKit
set_option linter.unusedVariables false
set_option linter.unusedSimpArgs false
theorem am_same (f0 f1 f2 f3 f4 f5 f6 f7 : Int) (w : World) : (Op.equalIn 10000 44 (.agg #[.int .i64 f0, .int .i64 f1, .int .i64 f2, .int .i64 f3, .int .i64 f4, .int .i64 f5, .int .i64 f6, .int .i64 f7]) (.agg #[.int .i64 f0, .int .i64 f1, .int .i64 f2, .int .i64 f3, .int .i64 f4, .int .i64 f5, .int .i64 f6, .int .i64 f7])).run Tryz.prog w = .ok true w := by
  rw [show (10000 : Nat) = 9999 + 1 from rfl, run_equalIn_struct w 9999 _ _ _ (by kernel_rfl) (by kernel_rfl)]
  have hi : ∀ (a b : Int) (w : World), (Op.equalIn 9999 3 (.int .i64 a) (.int .i64 b)).run Tryz.prog w = .ok (a == b) w := fun a b w => run_equalIn_int w 9998 3 .i64 .i64 a b Tryz.underlying3
  simp [Program.fieldsOf, Tryz.underlying44, Op.eqFields, partf_int, hi, itef_and]
theorem am_at {w : World} {A : Option Addr} {n : Nat} {l : List Am} (h : Rows 8 encAm w A n l) {i : Nat} (hi : i < n) :
    ∃ b off f, A = some ⟨b, off, none⟩ ∧ b < w.heap.size ∧ l[i]? = some f ∧ (w.cell? ⟨b, off + i * 8, none⟩ = some (.int .i64 f.kind) ∧ w.cell? ⟨b, off + i * 8 + 1, none⟩ = some (.int .i64 f.node) ∧ w.cell? ⟨b, off + i * 8 + 2, none⟩ = some (.int .i64 f.from_) ∧ w.cell? ⟨b, off + i * 8 + 3, none⟩ = some (.int .i64 f.to_) ∧ w.cell? ⟨b, off + i * 8 + 4, none⟩ = some (.int .i64 f.x) ∧ w.cell? ⟨b, off + i * 8 + 5, none⟩ = some (.int .i64 f.y) ∧ w.cell? ⟨b, off + i * 8 + 6, none⟩ = some (.int .i64 f.w) ∧ w.cell? ⟨b, off + i * 8 + 7, none⟩ = some (.int .i64 f.h)) := by
  obtain ⟨b, off, f, h1, h2, h3, h4⟩ := h.at_ hi
  exact ⟨b, off, f, h1, h2, h3, h4 0 _ rfl, h4 1 _ rfl, h4 2 _ rfl, h4 3 _ rfl, h4 4 _ rfl, h4 5 _ rfl, h4 6 _ rfl, h4 7 _ rfl⟩
set_option maxHeartbeats 4000000 in
set_option maxRecDepth 100000 in
theorem ams_same {l : List Am} {A B : Option Addr} {n m c d : Nat} {w : World} (h1 : Rows 8 encAm w A n l) (h2 : Rows 8 encAm w B m l) :
    Calls Tryz.prog 29 #[.slice A n c, .slice B m d] w fun e w' => e = .returned (.bool true) ∧ Below w.heap.size w w' := by
  have hn := h1.2.1
  obtain rfl : n = m := h1.1.symm.trans h2.1
  have H1 := Lib.hid h1
  have H2 := Lib.hid h2
  clear h1 h2
  have hq : ((n : Int) != (n : Int)) = false := by simp
  go_enter Tryz.func29, Tryz.ntmps29
  go_wp2_with fail
  go_loopw [5] (fun i wr => ∃ k m : Nat, k ≤ n ∧ i = .int .i64 k ∧ wr = w.drewN m) (fun i _ => n - (intOf i).toNat)
  case atStart => exact ⟨0, 0, by omega, rfl, rfl⟩
  case round =>
    obtain ⟨k, m, hk, rfl, rfl⟩ := hrel
    by_cases hlt : k < n
    · have hk2 : (k : Int) < (n : Int) := by omega
      obtain ⟨b, off, f, rfl, hbl, hf, q0, q1, q2, q3, q4, q5, q6, q7⟩ := am_at H1.out hlt
      obtain ⟨b', off', f', rfl, hbl', hf', p0, p1, p2, p3, p4, p5, p6, p7⟩ := am_at H2.out hlt
      rw [hf] at hf'
      injection hf' with e1
      subst e1
      obtain ⟨f0, f1, f2, f3, f4, f5, f6, f7⟩ := f
      simp only at q0 q1 q2 q3 q4 q5 q6 q7 p0 p1 p2 p3 p4 p5 p6 p7
      have he := am_same f0 f1 f2 f3 f4 f5 f6 f7
      clear hf
      go_wp2_with fail
      go_quiet (fail)
      go_wp2_with fail
      go_roundw
      case rel => exact ⟨k + 1, _, by omega, by go_num, rfl⟩
      case measure => simp [intOf]; omega
    · have hk2 : (n : Int) ≤ (k : Int) := by omega
      go_wp2_with fail
      go_ret
      exact ⟨rfl, below_drewN (Below.refl _ _) m⟩
set_option maxHeartbeats 4000000 in
theorem gal_same {la : List Am} {lf : List Fl} {A B A2 B2 : Option Addr} {n c n' c' m c2 m' c2' : Nat} {h : Int} {w : World} (h1 : Rows 8 encAm w A n la) (h2 : Rows 8 encAm w B n' la) (h3 : Rows 7 encFl w A2 m lf) (h4 : Rows 7 encFl w B2 m' lf) :
    Calls Tryz.prog 11 #[.agg #[.slice A n c, .slice A2 m c2, .int .i64 h], .agg #[.slice B n' c', .slice B2 m' c2', .int .i64 h]] w fun e w' => e = .returned (.bool true) ∧ Below w.heap.size w w' := by
  have H1 := Lib.hid h1
  have H2 := Lib.hid h2
  have H3 := Lib.hid h3
  have H4 := Lib.hid h4
  clear h1 h2 h3 h4
  have hh : (h == h) = true := by simp
  go_enter Tryz.func11, Tryz.ntmps11
  go_wp2_with fail
  generalize hW : World.alloc (World.alloc w _) _ = W
  have HX := Lib.hid (show Box W w.heap.size [.slice A n c, .slice A2 m c2, .int .i64 h] by rw [← hW]; exact (Box.new w [.slice A n c, .slice A2 m c2, .int .i64 h] _).alloc _)
  have HY := Lib.hid (show Box W (w.heap.size + 1) [.slice B n' c', .slice B2 m' c2', .int .i64 h] by rw [← hW]; exact (show ∀ (V : World) (k : Nat) (vs : List Value) (t : TypeId), k = V.heap.size → Box (V.alloc (.cells vs.toArray t)) k vs from fun V k vs t e => by subst e; exact Box.new V vs t) _ _ [.slice B n' c', .slice B2 m' c2', .int .i64 h] _ (by simp))
  have HB := Lib.hid (show Below w.heap.size w W by rw [← hW]; go_grown)
  clear hW
  refine (ams_same (H1.out.below HB.out) (H2.out.below HB.out)).mono ?_
  rintro e w1 ⟨rfl, hb⟩
  have HX1 := Lib.hid (HX.out.below hb)
  have HY1 := Lib.hid (HY.out.below hb)
  have HB1 := Lib.hid (below_then HB.out hb)
  clear hb HX HY HB
  have x0 := HX1.out.2.2 0 _ rfl
  have x1 := HX1.out.2.2 1 _ rfl
  have x2 := HX1.out.2.2 2 _ rfl
  have y0 := HY1.out.2.2 0 _ rfl
  have y1 := HY1.out.2.2 1 _ rfl
  have y2 := HY1.out.2.2 2 _ rfl
  go_wp2_with fail
  refine (fls_same (H3.out.below HB1.out) (H4.out.below HB1.out)).mono ?_
  rintro e w2 ⟨rfl, hb⟩
  have HB2 := Lib.hid (below_then HB1.out hb)
  clear hb
  go_wp2_with fail
  go_ret
  exact ⟨rfl, HB2.out⟩
/-- are nodes more than are gone through here? -/
def longB (L : List Nd) : Bool := decide (60 < L.length) || L.any fun y => decide (60 < y.words.length)
theorem longB_no {L : List Nd} (h : longB L = false) : L.length ≤ 60 ∧ ∀ y ∈ L, y.words.length ≤ 60 := by
  unfold longB at h
  rw [Bool.or_eq_false_iff] at h
  refine ⟨by have := of_decide_eq_false h.1; omega, fun y hy => ?_⟩
  have := List.any_eq_false.1 h.2 y hy
  simp only [decide_eq_true_eq] at this
  omega
set_option maxHeartbeats 4000000 in
theorem long14_to {L : List Nd} {v : Bool} (hv : longB L = v) {A : Option Addr} {n c : Nat} {w : World} (h : Sees w A n L) :
    Calls Tryz.prog 7 #[.slice A n c] w fun e w' => e = .returned (.bool v) ∧ w = w' := by
  have HV := Lib.hid hv
  have HS := Lib.hid h
  have HL := Lib.hid h.len
  have hbd := h.bound
  clear hv h
  by_cases h1 : 60 < n
  · have HT := Lib.hid (show true = v by rw [← HV.out]; unfold longB; rw [decide_eq_true (by have := HL.out; omega)]; rfl)
    have h2 : (60 : Int) < (n : Int) := by omega
    clear h1
    go_enter Tryz.func7, Tryz.ntmps7
    go_wp2_with fail
    go_ret
    exact ⟨ret_bool HT.out, rfl⟩
  have h2 : (n : Int) ≤ 60 := by omega
  go_enter Tryz.func7, Tryz.ntmps7
  go_wp2_with fail
  go_loop [3] (fun i => ∃ k : Nat, i = .int .i64 (k : Int) ∧ k ≤ n ∧ Hid (∀ y ∈ L.take k, y.words.length ≤ 60)) (fun i => n - (intOf i).toNat)
  case atStart => exact ⟨0, rfl, Nat.zero_le _, Lib.hid (fun y hy => by simp at hy)⟩
  case round =>
    obtain ⟨k, rfl, hk, HK⟩ := hrel
    by_cases hlt : k < n
    · have hk2 : (k : Int) < (n : Int) := by omega
      obtain ⟨b, off, m, x, rfl, hbl, hx, hr, hs⟩ := HS.out.at_ hlt
      have q16 := hr 16 _ rfl
      have hwl : x.words.length = m.n := hs.2.1
      have HX := Lib.hid hx
      have HM := Lib.hid (List.mem_of_getElem? hx)
      clear hr hs hx
      by_cases hw : 60 < m.n
      · have hw2 : (60 : Int) < (m.n : Int) := by omega
        have HT := Lib.hid (show true = v by
          rw [← HV.out]
          unfold longB
          rw [List.any_eq_true.2 ⟨x, HM.out, by simp; omega⟩, Bool.or_true])
        clear hw
        go_wp2_with fail
        go_ret
        exact ⟨ret_bool HT.out, rfl⟩
      · have hw2 : (m.n : Int) ≤ 60 := by omega
        have HK2 := Lib.hid (show ∀ y ∈ L.take (k + 1), y.words.length ≤ 60 from fun y hy => by
          rw [take_one HX.out] at hy
          rcases List.mem_append.1 hy with hy | hy
          · exact HK.out y hy
          · simp only [List.mem_singleton] at hy
            subst hy
            omega)
        clear hw
        go_wp2_with fail
        go_round
        case rel => exact ⟨k + 1, by go_num, by omega, HK2⟩
        case measure => simp [intOf] <;> omega
    · have hk2 : (n : Int) ≤ (k : Int) := by omega
      have HT := Lib.hid (show false = v by
        rw [← HV.out]
        unfold longB
        rw [decide_eq_false (by have := HL.out; omega), Bool.false_or]
        symm
        rw [List.any_eq_false]
        intro y hy
        have := HK.out y (by rw [List.take_of_length_le (by have := HL.out; omega)]; exact hy)
        simp only [decide_eq_true_eq]
        omega)
      go_wp2_with fail
      go_ret
      exact ⟨ret_bool HT.out, rfl⟩
end Go.Proofs.YtdjnaejblgheoaaGreat
/- The document's answers for package lex: the character that stands there; whether a text is well-formed. -/
namespace Go.Proofs.YtdjnaejblgheoaaGreat
open Go.RowKit
set_option linter.unusedVariables false
set_option linter.unusedSimpArgs false
theorem ret_i32 {a b : Int} (h : a = b) : Ending.returned (.int .i32 a) = Ending.returned (.int .i32 b) := by rw [h]
theorem size_to {s : ByteArray} {k n : Nat} (hn : sizeB s k = n) (w : World) (hk : k ≤ 800000) (hs : s.size ≤ 800000) : Calls Tryz.prog 118 #[.string s, .int .i64 k] w fun e w' => e = .returned (.int .i64 (n : Int)) ∧ w = w' := by
  subst hn; exact size_any s k w hk hs
set_option maxRecDepth 100000 in
theorem rune_any (s : ByteArray) (k n : Nat) (w : World) (h1 : 1 ≤ n) (h4 : n ≤ 4) (hin : k + n ≤ s.size) (hs : s.size ≤ 800000) : Calls Tryz.prog 120 #[.string s, .int .i64 k, .int .i64 n] w fun e w' => e = .returned (.int .i32 (runeB s k n)) ∧ Below w.heap.size w w' := by
  have hk : k < s.size := by omega
  have hb := bAt_get s k hk
  have hbd := bAt_bd s k
  have hk2 : (k : Int) < (s.size : Int) := by omega
  by_cases hn1 : n = 1
  · subst hn1
    have HR := Lib.hid (show runeB s k 1 = bAt s k from if_pos rfl)
    have o1 : IntKind.i32.wrap (bAt s k) = bAt s k := by rw [IntKind.wrap_i32]; omega
    go_enter Tryz.func120, Tryz.ntmps120
    go_wp2
    go_ret
    exact ⟨ret_i32 HR.out.symm, Below.refl _ _⟩
  · have hnn : ((n : Int) == 1) = false := by simp; omega
    have HR := Lib.hid (show runeB s k n = runeP s k (firstB n) n from if_neg hn1)
    have hcell : (#[Value.int .i64 0, .int .i64 0, .int .i64 192, .int .i64 224, .int .i64 240] : Array Value)[n]? = some (.int .i64 (firstB n)) := by
      rcases (show n = 2 ∨ n = 3 ∨ n = 4 by omega) with rfl | rfl | rfl <;> rfl
    have hfb : 0 ≤ firstB n ∧ firstB n ≤ 240 := by unfold firstB; split <;> (try split) <;> (try split) <;> omega
    have hBd := fun j hj => runeP_bd s k (base := firstB n) (by omega) j hj
    have HBd := Lib.hid hBd
    have hfirst : runeP s k (firstB n) 1 = bAt s k - firstB n := rfl
    have HP1 := Lib.hid hfirst
    clear hfirst
    have hBx : Box (w.alloc (.cells #[.int .i64 0, .int .i64 0, .int .i64 192, .int .i64 224, .int .i64 240] 3)) w.heap.size [.int .i64 0, .int .i64 0, .int .i64 192, .int .i64 224, .int .i64 240] := Box.new _ _ _
    have hc := hBx.2.2 n (.int .i64 (firstB n)) (by simpa using hcell)
    clear hBd hcell
    go_enter Tryz.func120, Tryz.ntmps120
    go_wp2_with fail
    have hB0 : Below w.heap.size w (w.alloc (.cells #[.int .i64 0, .int .i64 0, .int .i64 192, .int .i64 224, .int .i64 240] 3)) := by go_grown
    clear hBx
    generalize w.alloc (.cells #[.int .i64 0, .int .i64 0, .int .i64 192, .int .i64 224, .int .i64 240] 3) = W at hc hB0 ⊢
    have HB0 := Lib.hid hB0
    have hn5 : (n : Int) < 5 := by omega
    have hn0 : (0 : Int) ≤ (n : Int) := by omega
    clear hB0
    go_quiet (fail)
    clear hb
    go_wp2_with fail
    go_loopw [8, 9] (fun v i wr => ∃ j m : Nat, 1 ≤ j ∧ j ≤ n ∧ i = .int .i64 j ∧ v = .int .i64 (runeP s k (firstB n) j) ∧ wr = W.drewN m) (fun _ i _ => n - (intOf i).toNat)
    case atStart => exact ⟨1, _, by omega, by omega, rfl, by rw [HP1.out], rfl⟩
    case round =>
      obtain ⟨j, m, hj1, hj, rfl, rfl, rfl⟩ := hrel
      obtain ⟨hp1, hp2⟩ := HBd.out j (by omega)
      by_cases hlt : j < n
      · have hbj := bAt_get s (k + j) (by omega)
        have hbd2 := bAt_bd s (k + j)
        have HSu := Lib.hid (runeP_succ s k (firstB n) hj1)
        have hkj : (k : Int) + (j : Int) < (s.size : Int) := by omega
        have htn : ((k : Int) + (j : Int)).toNat = k + j := by omega
        go_wp2_with fail
        go_roundw
        case rel => exact ⟨j + 1, _, by omega, by omega, by go_num, by rw [HSu.out], rfl⟩
        case measure => simp [intOf]; omega
      · obtain rfl : j = n := by omega
        have o1 : IntKind.i32.wrap (runeP s k (firstB j) j) = runeP s k (firstB j) j := by rw [IntKind.wrap_i32]; omega
        go_wp2_with fail
        go_ret
        exact ⟨ret_i32 HR.out.symm, below_drewN HB0.out m⟩
end Go.Proofs.YtdjnaejblgheoaaGreat
/- The document's answers for package place: where a float goes. -/
namespace Go.Proofs.YtdjnaejblgheoaaGreat
open Go.RowKit
set_option linter.unusedVariables false
set_option linter.unusedSimpArgs false
end Go.Proofs.YtdjnaejblgheoaaGreat
/- The document's answers for package read: the letter of an attribute. -/
namespace Go.Proofs.YtdjnaejblgheoaaGreat
open Go.RowKit
set_option linter.unusedVariables false
set_option linter.unusedSimpArgs false
def lettersZ : ByteArray := ⟨#[109, 110, 112, 113, 105, 111, 119, 104, 66, 65, 73, 99]⟩
def bytesI (t : ByteArray) : List Int := (List.range t.size).map (bAt t)
theorem mem_bytesI {t : ByteArray} {c : Int} : c ∈ bytesI t ↔ ∃ j, j < t.size ∧ bAt t j = c := by unfold bytesI; simp
theorem letters_at : ∀ k, k < 12 → bAt lettersZ k ∈ lettersB := by decide +kernel
theorem letters_all : ∀ c ∈ lettersB, ∃ k, k < 12 ∧ bAt lettersZ k = c := by decide +kernel
theorem letterB_found {l : List Tok} {i : Nat} {told : List Int} {c : Int} (hc : c ∈ lettersB) (h : sgB l i c = true) : letterB l i told = if c ∈ told then 0 else c := by
  have hf : lettersB.find? (sgB l i) = some c := by
    rcases hq : lettersB.find? (sgB l i) with _ | d
    · have := List.find?_eq_none.1 hq c hc
      exact absurd h this
    · have := List.find?_some hq
      by_cases e : d = c
      · rw [e]
      · exact (sg_clash this h e).elim
  unfold letterB
  rw [hf]
theorem letterB_none {l : List Tok} {i : Nat} {told : List Int} (h : ∀ c ∈ lettersB, sgB l i c = false) : letterB l i told = 0 := by
  have hf : lettersB.find? (sgB l i) = none := List.find?_eq_none.2 (fun c hc => by rw [h c hc]; simp)
  unfold letterB
  rw [hf]
theorem rletters_to {z : ByteArray} (hz : lettersZ = z) (w : World) : Calls Tryz.prog 168 #[] w fun e w' => e = .returned (.string z) ∧ w = w' := by
  subst hz; exact rletters_any w
theorem rsign_to {toks : List Tok} {A : Option Addr} {n c' : Nat} {i : Nat} {c : Int} {v : Bool} (hv : sgB toks i c = v) (w : World) (hR : Rows 4 encT w A n toks) (hi : i ≤ 10000000) : Calls Tryz.prog 121 #[.slice A n c', .int .i64 i, .int .i32 c] w fun e w' => e = .returned (.bool v) ∧ w = w' := by
  subst hv; exact rsign_any toks A n c' i c w hR hi
theorem rletter_any (toks : List Tok) (A : Option Addr) (n c' : Nat) (i : Nat) (told : ByteArray) (w : World) (hR : Rows 4 encT w A n toks) (hi : i ≤ 1000000) (ht : told.size ≤ 2000000) :
    Calls Tryz.prog 156 #[.slice A n c', .int .i64 i, .string told] w fun e w' => e = .returned (.int .u8 (letterB toks i (bytesI told))) ∧ Below w.heap.size w w' := by
  have HR := Lib.hid hR
  clear hR
  obtain ⟨z, hz⟩ : ∃ z, lettersZ = z := ⟨_, rfl⟩
  have hzs : z.size = 12 := by rw [← hz]; rfl
  have HZ := Lib.hid hz
  have HL := Lib.hid (show ∀ k, k < 12 → bAt z k ∈ lettersB from hz ▸ letters_at)
  have HA := Lib.hid (show ∀ c ∈ lettersB, ∃ k, k < 12 ∧ bAt z k = c from hz ▸ letters_all)
  clear hz
  go_enter Tryz.func156, Tryz.ntmps156
  go_wp2_with (go_at_call 168; refine (rletters_to HZ.out _).mono ?_; rintro e w' ⟨rfl, rfl⟩)
  go_loopw [8, 9] (fun v u wr => ∃ k : Nat, k ≤ 12 ∧ v = .int .i64 k ∧ (∀ j, j < k → sgB toks i (bAt z j) = false) ∧ wr = w) (fun v _ _ => 12 - (intOf v).toNat)
  case atStart => exact ⟨0, by omega, rfl, fun j hj => by omega, rfl⟩
  case round =>
    obtain ⟨k, hk, rfl, hno, rfl⟩ := hrel
    have HN := Lib.hid hno
    clear hno
    by_cases hlt : k < 12
    · have hkz : k < z.size := by omega
      have hk2 : (k : Int) < (z.size : Int) := by omega
      have hb0 := bAt_get z k hkz
      have hbd := bAt_bd z k
      obtain ⟨c, hc⟩ : ∃ c, bAt z k = c := ⟨_, rfl⟩
      rw [hc] at hb0 hbd
      have HC := Lib.hid hc
      have o1 : IntKind.i32.wrap c = c := by rw [IntKind.wrap_i32]; omega
      clear hc
      rcases hs : sgB toks i c with _ | _
      · have HS := Lib.hid hs
        clear hs
        go_wp2_with (go_at_call 121; refine (rsign_to HS.out _ HR.out (by omega)).mono ?_; rintro e w' ⟨rfl, rfl⟩)
        go_roundw
        case rel => exact ⟨k + 1, by omega, by go_num, fun j hj => by
          by_cases e : j = k
          · subst e; rw [HC.out]; exact HS.out
          · exact HN.out j (by omega), by first | rfl | trivial⟩
        case measure => simp [intOf]; omega
      · have HS := Lib.hid hs
        have hcl : c ∈ lettersB := by rw [← HC.out]; exact HL.out k hlt
        have hv := letterB_found (told := bytesI told) hcl hs
        have HV := Lib.hid hv
        clear hs hv
        go_wp2_with (go_at_call 121; refine (rsign_to HS.out _ HR.out (by omega)).mono ?_; rintro e w' ⟨rfl, rfl⟩)
        obtain ⟨wo, rfl⟩ : ∃ wo : World, wo = wr := ⟨_, rfl⟩
        go_loopw [9] (fun u wr => ∃ k2 m : Nat, k2 ≤ told.size ∧ u = .int .i64 k2 ∧ (∀ j, j < k2 → bAt told j ≠ c) ∧ wr = wo.drewN m) (fun u _ => told.size - (intOf u).toNat)
        case atStart => exact ⟨0, 0, by omega, rfl, fun j hj => by omega, rfl⟩
        case round =>
          obtain ⟨k2, m, hk2', rfl, hno, rfl⟩ := hrel
          have HN2 := Lib.hid hno
          clear hno
          by_cases hlt2 : k2 < told.size
          · have hd0 := bAt_get told k2 hlt2
            have hk3 : (k2 : Int) < (told.size : Int) := by omega
            obtain ⟨d, hd⟩ : ∃ d, bAt told k2 = d := ⟨_, rfl⟩
            rw [hd] at hd0
            have HD := Lib.hid hd
            clear hd
            by_cases hdc : d = c
            · have HR0 := Lib.hid (show letterB toks i (bytesI told) = 0 by rw [HV.out, if_pos (mem_bytesI.2 ⟨k2, hlt2, by rw [HD.out, hdc]⟩)])
              subst hdc
              go_wp2_with fail
              go_quiet (fail)
              go_wp2_with fail
              go_ret
              exact ⟨by rw [HR0.out]; rfl, below_drewN (below_drewN (Below.refl _ _) _) _⟩
            · have hdc2 : (d == c) = false := by simp [hdc]
              go_wp2_with fail
              go_quiet (fail)
              go_wp2_with fail
              go_roundw
              case rel => exact ⟨k2 + 1, _, by omega, by go_num, fun j hj => by
                by_cases e : j = k2
                · subst e; rw [HD.out]; exact hdc
                · exact HN2.out j (by omega), rfl⟩
              case measure => simp [intOf]; omega
          · have HR0 := Lib.hid (show letterB toks i (bytesI told) = c by rw [HV.out, if_neg (by rw [mem_bytesI]; rintro ⟨j, hj, e⟩; exact HN2.out j (by omega) e)])
            have hk3 : (told.size : Int) ≤ (k2 : Int) := by omega
            go_wp2_with fail
            go_ret
            exact ⟨by rw [HR0.out]; rfl, below_drewN (Below.refl _ _) _⟩
    · obtain rfl : k = 12 := by omega
      have hv : letterB toks i (bytesI told) = 0 := letterB_none (fun c hc => by
        obtain ⟨k, hk1, hk2⟩ := HA.out c hc
        rw [← hk2]; exact HN.out k hk1)
      have HV := Lib.hid hv
      clear hv
      go_wp2_with fail
      go_ret
      exact ⟨by rw [HV.out]; rfl, Below.refl _ _⟩
end Go.Proofs.YtdjnaejblgheoaaGreat
/- The program's package valid: the row of what is open. -/
namespace Go.Proofs.YtdjnaejblgheoaaGreat
open Go.RowKit
set_option linter.unusedVariables false
set_option linter.unusedSimpArgs false
def cntL (s : Sm) (A : Option Addr) (k c : Nat) : List Value := [.int .i64 s.depth, .int .i64 s.pieces, .int .i64 s.nodes, .int .i64 s.heights, .slice A k c]
/-- what has been counted lies in block D; what is open in a row of the call's own. -/
structure Cnt (base D : Nat) (w : World) (s : Sm) (A : Option Addr) (k c : Nat) (es : List Int) : Prop where
  blk : Blk w D 77 (cntL s A k c)
  row : w.ownsRow base 3 1 (.slice A k c) k (es.map (Value.int .i64))
theorem Cnt.len {base D : Nat} {w : World} {s : Sm} {A : Option Addr} {k c : Nat} {es : List Int} (h : Cnt base D w s A k c es) : es.length = k := by
  have := h.row.1
  simpa using this
theorem Cnt.ints {base D : Nat} {w : World} {s : Sm} {A : Option Addr} {k c : Nat} {es : List Int} (h : Cnt base D w s A k c es) : Ints w A k es := (ownsRow_cells h.row).ints
theorem Cnt.on {base D : Nat} {w w' : World} {s : Sm} {A : Option Addr} {k c : Nat} {es : List Int} (h : Cnt base D w s A k c es) (hb : On w w') : Cnt base D w' s A k c es := ⟨h.blk.on hb, owns_below h.row hb⟩
theorem Cnt.cap {base D : Nat} {w : World} {s : Sm} {A : Option Addr} {k c : Nat} {es : List Int} (h : Cnt base D w s A k c es) : k ≤ c ∧ c ≤ 9223372036854775807 := by
  rcases h.row.2 with ⟨h1, h2⟩ | ⟨g, cap, cur, h1, _, _, h2, h3, _⟩
  · injection h1 with _ h1 h3; omega
  · injection h1 with _ _ h1
    unfold maxLen at h3
    omega
/-- only block D has turned. -/
structure OnlyAt (D : Nat) (w w' : World) : Prop where
  below : Below D w w'
  size : w'.heap.size = w.heap.size
  block : ∀ k, k ≠ D → w'.heap[k]? = w.heap[k]?
theorem OnlyAt.refl (D : Nat) (w : World) : OnlyAt D w w := ⟨Below.refl _ _, rfl, fun _ _ => rfl⟩
theorem OnlyAt.drewN {D : Nat} {w w' : World} (h : OnlyAt D w w') (n : Nat) : OnlyAt D w (w'.drewN n) := ⟨below_drewN h.below n, h.size, h.block⟩
theorem OnlyAt.drew {D : Nat} {w w' : World} (h : OnlyAt D w w') : OnlyAt D w w'.drew := ⟨h.below.drew, h.size, h.block⟩
theorem OnlyAt.set {D : Nat} {w w' : World} (h : OnlyAt D w w') (j : Nat) (v : Value) : OnlyAt D w (w'.setCell ⟨D, j, none⟩ v) :=
  ⟨h.below.setCell (Nat.le_refl _) v, by simp [h.size], fun k hk => (Below.heap_setCell _ _ _ _ hk).trans (h.block k hk)⟩
theorem OnlyAt.blk {D g : Nat} {w w' : World} {t : TypeId} {vs : List Value} (h : OnlyAt D w w') (hg : g ≠ D) (hb : Blk w g t vs) : Blk w' g t vs := (h.block g hg).trans hb
theorem owns_only {D base : Nat} {w w' : World} {e t : TypeId} {size : Nat} {v : Value} {n : Nat} {xs vs : List Value} (h : w.ownsRow base e size v n xs) (ho : OnlyAt D w w') (hD : Blk w D t vs) (ht : e ≠ t) : w'.ownsRow base e size v n xs := by
  refine ⟨h.1, ?_⟩
  rcases h.2 with h2 | ⟨g, cap, cur, h1, h2, h3, h4⟩
  · exact .inl h2
  · refine .inr ⟨g, cap, cur, h1, h2, (ho.block g (fun e => ?_)).trans h3, h4⟩
    subst e
    rw [show w.heap[g]? = _ from hD] at h3
    injection h3 with h3
    injection h3 with _ h3 _
    exact ht h3.symm
theorem owns_take {base : Nat} {w : World} {e : TypeId} {A : Option Addr} {n c : Nat} {xs : List Value} (h : w.ownsRow base e 1 (.slice A n c) n xs) {k : Nat} (hk : k ≤ n) : w.ownsRow base e 1 (.slice A k c) k (xs.take k) := by
  have hl := h.1
  refine ⟨by rw [List.length_take]; omega, ?_⟩
  rcases h.2 with ⟨h1, h2⟩ | ⟨g, cap, cur, h1, h2, h3, h4, h5, h6, h7⟩
  · injection h1 with h1 _ h3
    subst h1 h3
    obtain rfl : k = 0 := by omega
    exact .inl ⟨rfl, rfl⟩
  · injection h1 with h1 _ h8
    subst h1 h8
    refine .inr ⟨g, c, cur, rfl, h2, h3, by omega, h5, h6, ?_⟩
    rw [← h7, List.take_take]
    congr 1
    omega
theorem Cnt.below {base D : Nat} {w w' : World} {s : Sm} {A : Option Addr} {k c : Nat} {es : List Int} (h : Cnt base D w s A k c es) (hb : Below w.heap.size w w') : Cnt base D w' s A k c es := h.on hb
theorem pend_any (base D : Nat) (w : World) (s : Sm) (A : Option Addr) (k c : Nat) (es : List Int) (z : Int) (h : Cnt base D w s A (k + 1) c es) (hz : es[k]? = some z) : Calls Tryz.prog 64 #[.pointer (some ⟨D, 0, none⟩)] w fun e w' => e = .returned (.int .i64 z) ∧ ∃ q, w' = w.drewN q := by
  have hI := h.ints
  obtain ⟨b1, o1, rfl, hc1⟩ := hI.at_ (Nat.lt_succ_self k)
  rw [show es[k]?.getD 0 = z by rw [hz]; rfl] at hc1
  have c4 := h.blk.box.2.2 4 _ rfl
  have hcap := h.cap
  have hk : k + 1 ≤ 9223372036854775807 := by omega
  clear h hI hz hcap
  go_enter Tryz.func64, Tryz.ntmps64
  go_wp2_with fail
  go_quiet (fail)
  go_wp2_with fail
  go_ret
  exact ⟨rfl, _, rfl⟩
theorem pend_to {base D : Nat} {w : World} {s : Sm} {A : Option Addr} {k c : Nat} {es : List Int} {z : Int} (h : Cnt base D w s A (k + 1) c es) (hz : es[k]? = some z) : Calls Tryz.prog 64 #[.pointer (some ⟨D, 0, none⟩)] w fun e w' => e = .returned (.int .i64 z) ∧ ∃ q, w' = w.drewN q := pend_any base D w s A k c es z h hz
theorem Cnt.drewN {base D : Nat} {w : World} {s : Sm} {A : Option Addr} {k c : Nat} {es : List Int} (h : Cnt base D w s A k c es) (q : Nat) : Cnt base D (w.drewN q) s A k c es := h.on (below_drewN (Below.refl _ _) q)
set_option maxHeartbeats 4000000 in
theorem pleave_any (base D : Nat) (w : World) (s : Sm) (A : Option Addr) (c : Nat) (ks : List Int) (i z : Int) (m : Nat) (h : Cnt base D w s A (ks.length + m) c (ks ++ List.replicate m i)) (hz : ks.getLast? = some z) (hne : z ≠ i) :
    Calls Tryz.prog 62 #[.pointer (some ⟨D, 0, none⟩), .int .i64 i] w fun e w' => e = .returned (.tuple #[]) ∧ Cnt base D w' s A ks.length c ks ∧ OnlyAt D w w' := by
  have H := Lib.hid h
  have HZ := Lib.hid hz
  have HN := Lib.hid hne
  clear h hz hne
  go_enter Tryz.func62, Tryz.ntmps62
  go_wp2_with fail
  go_loopg [] m (fun k wr => k ≤ m ∧ Cnt base D wr s A (ks.length + k) c (ks ++ List.replicate k i) ∧ OnlyAt D w wr)
  case atStart => exact ⟨Nat.le_refl _, H.out, OnlyAt.refl _ _⟩
  case round =>
    obtain ⟨hk, hC, hO⟩ := hrel
    have HC := Lib.hid hC
    have HO := Lib.hid hO
    clear hC hO
    cases gk with
    | zero =>
      obtain ⟨j, hj⟩ : ∃ j, ks.length = j + 1 := ⟨ks.length - 1, by
        have : ks ≠ [] := fun e => by rw [e] at HZ; cases HZ.out
        have := List.length_pos_iff.2 this
        omega⟩
      have hC := HC.out
      simp only [Nat.add_zero, List.replicate_zero, List.append_nil] at hC
      have HC1 := Lib.hid hC
      have hC2 : Cnt base D wr s A (j + 1) c ks := by rw [← hj]; exact hC
      have hz2 : ks[j]? = some z := by rw [← HZ.out, List.getLast?_eq_getElem?, hj]; rfl
      have HC2 := Lib.hid hC2
      have HZ2 := Lib.hid hz2
      have hzi : (z == i) = false := by simpa using HN.out
      clear hC hC2 hz2 hj
      go_wp2_with fail
      refine (pend_to HC2.out HZ2.out).mono ?_
      rintro e w1 ⟨rfl, q, rfl⟩
      go_wp2_with fail
      go_returns
      exact ⟨rfl, HC1.out.drewN q, HO.out.drewN q⟩
    | succ g =>
      obtain ⟨r, hr⟩ : ∃ r, ks.length + g = r := ⟨_, rfl⟩
      have hC2 : Cnt base D wr s A (r + 1) c (ks ++ List.replicate (g + 1) i) := by rw [← hr]; exact HC.out
      have hz2 : (ks ++ List.replicate (g + 1) i)[r]? = some i := by
        rw [List.getElem?_append_right (by omega), List.getElem?_replicate]
        rw [if_pos (by omega)]
      have HC2 := Lib.hid hC2
      have HZ2 := Lib.hid hz2
      have HR := Lib.hid hr
      clear hC2 hz2 hr
      go_wp2_with fail
      refine (pend_to HC2.out HZ2.out).mono ?_
      rintro e w1 ⟨rfl, q, rfl⟩
      have hC3 := HC2.out.drewN q
      have hO3 := HO.out.drewN q
      generalize wr.drewN q = V at hC3 hO3
      have c4 := hC3.blk.box.2.2 4 _ rfl
      have f4 := hC3.blk.box.2.1 4
      have hcap := hC3.cap
      have hlt := hC3.blk.box.1
      obtain ⟨hc1, hc2⟩ := hcap
      have HC3 := Lib.hid hC3
      have HO3 := Lib.hid hO3
      clear hC3 hO3
      go_wp2_with fail
      go_region
      go_wp2_with fail
      go_roundg g
      case rel =>
        have hO4 : OnlyAt D V (V.setCell ⟨D, 4, none⟩ (.slice A r c)).drew := ((OnlyAt.refl D V).set 4 _).drew
        refine ⟨by omega, ⟨?_, ?_⟩, (HO3.out.set 4 _).drew⟩
        · rw [HR.out]
          exact (HC3.out.blk.set 4 (.slice A r c)).drew
        · have h1 := owns_take HC3.out.row (Nat.le_succ r)
          have h2 := owns_only h1 hO4 HC3.out.blk (by decide)
          have e : ((ks ++ List.replicate (g + 1) i).map (Value.int .i64)).take r = (ks ++ List.replicate g i).map (Value.int .i64) := by
            rw [← List.map_take]
            congr 1
            rw [← HR.out, List.take_length_add_append, List.take_replicate]
            congr 2
            omega
          rw [e] at h2
          rw [HR.out]
          exact h2
      case measure => omega
end Go.Proofs.YtdjnaejblgheoaaGreat
/- The program's package words: the range over the places behind words. -/
namespace Go.Proofs.YtdjnaejblgheoaaGreat
open Go.RowKit Go.Shelf
set_option linter.unusedVariables false
set_option linter.unusedSimpArgs false
attribute [local go_sem] Oper.semAt_some
theorem wide_deep9 (k : Nat) : Fence.wide.depth.isSome = true → 1 ≤ k := fun h => by cases h
theorem boxed_kept9 {B k : Nat} {t : TypeId} {v : Value} {X Y : World} {row : Option Nat} (hs : Boxed X k t v) (hg : X.grownBy Y row) (hr : ∀ r, row = some r → B ≤ r ∧ ∃ o : Obj, X.heap[r]? = some o ∧ o.isCells = false) : Boxed Y k t v :=
  hs.kept hg (fun e' => by
    obtain ⟨_, o, ho, hc⟩ := hr k e'.symm
    rw [show X.heap[k]? = _ from hs] at ho; cases ho; cases hc)
theorem grown_of_below9 {w w' : World} (h : Below w.heap.size w w') (row : Option Nat) : w.grownBy w' row := ⟨h.os, h.tape, h.output, h.size, fun k hk _ => h.block k hk⟩
/-- how many words lie behind the place a. -/
def leftN (zs : List Int) (a : Int) : Nat := if 0 ≤ a ∧ a < (zs.length : Int) then zs.length - a.toNat else 0
/-- how wide the run is behind k words; a space less than none, ahead of the first. -/
def wideK (zs : List Int) (sp a : Int) : Nat → Int
  | 0 => -sp
  | k + 1 => wideN zs sp a.toNat (a.toNat + (k + 1))
/-- an element of the range: how many words ahead. -/
abbrev K9 := { k : Nat // k ≤ 1000 }
def enc9 (zs : List Int) (sp a : Int) (x : K9) : Array Value := #[.int .i64 (a + ((x.1 : Nat) : Int) + 1), .int .i64 (wideK zs sp a (x.1 + 1))]
theorem wideK_step {zs : List Int} {sp a : Int} {k : Nat} (h0 : 0 ≤ a) (h : a.toNat + k < zs.length) : wideK zs sp a (k + 1) = wideK zs sp a k + (sp + wordI zs (a.toNat + k)) := by
  cases k with
  | zero =>
    show wideN zs sp a.toNat (a.toNat + 1) = -sp + (sp + wordI zs (a.toNat + 0))
    rw [wideN_one (by omega), Nat.add_zero]; omega
  | succ k =>
    show wideN zs sp a.toNat (a.toNat + (k + 1 + 1)) = wideN zs sp a.toNat (a.toNat + (k + 1)) + (sp + wordI zs (a.toNat + (k + 1)))
    rw [show a.toNat + (k + 1 + 1) = a.toNat + (k + 1) + 1 by omega, wideN_step (by omega) (by omega)]; omega
theorem wideK_bd {zs : List Int} {sp : Int} (h : Near9 zs sp) (hl : zs.length ≤ 1000) (a : Int) (k : Nat) : -35184372088832 ≤ wideK zs sp a k ∧ wideK zs sp a k ≤ 2000 * 35184372088832 := by
  cases k with
  | zero =>
    have h1 := h.1
    unfold farN at h1
    show -35184372088832 ≤ -sp ∧ -sp ≤ 2000 * 35184372088832
    omega
  | succ k =>
    have h1 := wideN_bd h a.toNat (a.toNat + (k + 1))
    have h2 : 2 * (zs.length : Int) * farN ≤ 2000 * farN := Int.mul_le_mul_of_nonneg_right (by omega) (by unfold farN; omega)
    unfold farN at *
    show -35184372088832 ≤ wideN zs sp a.toNat (a.toNat + (k + 1)) ∧ wideN zs sp a.toNat (a.toNat + (k + 1)) ≤ 2000 * 35184372088832
    omega
/-- a world from which the range can read: its three boxes, and the words. -/
def Reads9 (zs : List Int) (sp a : Int) (A : Option Addr) (m c b : Nat) (V : World) : Prop := V.cell? ⟨b, 0, none⟩ = some (.slice A m c) ∧ V.cell? ⟨b + 1, 0, none⟩ = some (.int .i64 sp) ∧ V.cell? ⟨b + 2, 0, none⟩ = some (.int .i64 a) ∧ Ints V A m zs
set_option maxRecDepth 100000 in
set_option maxHeartbeats 4000000 in
theorem ends1_in (n l b : Nat) {zs : List Int} {sp a : Int} (hn : Near9 zs sp) {A : Option Addr} {m c : Nat} (hm : m ≤ 1000) (ha : I64w a) (hl : zs.length = m)
    (G : World → Prop) (Kp : World → World → Prop) (hG : ∀ V, G V → Reads9 zs sp a A m c b V) (hGd : ∀ V, G V → G V.drew) (hGK : ∀ X Y, G X → Kp X Y → G Y)
    (J Jx : List K9 → World → Prop) (W : World) (hW : G W) (hJ : AbidesFrom W.heap.size J)
    (hY : ∀ pre x W1, J pre W1 → pre.length < 1001 → YieldAt Fence.wide (n - 1) Tryz.prog l (enc9 zs sp a x) W1 fun e W' =>
      (e = .returned (.bool true) ∧ J (pre ++ [x]) W' ∧ Kp W1 W') ∨ (e = .returned (.bool false) ∧ Jx (pre ++ [x]) W'))
    (h0 : J [] W) :
    CallsIn Fence.wide n Tryz.prog 67 #[.func (.yield l) #[] #[], .pointer (some ⟨b + 2, 0, none⟩), .pointer (some ⟨b, 0, none⟩), .pointer (some ⟨b + 1, 0, none⟩)] W fun e W' => (∃ v, e = .returned v) ∧
      ((∃ xs : List K9, xs.map (·.1) = List.range (leftN zs a) ∧ J xs W') ∨ (∃ pre : List K9, (∃ q, q < leftN zs a ∧ pre.map (·.1) = List.range (q + 1)) ∧ Jx pre W')) := by
  have HG := Lib.hid hG
  have HGd := Lib.hid hGd
  have HGK := Lib.hid hGK
  have HY := Lib.hid hY
  have HJ := Lib.hid hJ
  have HL := Lib.hid hl
  have HN := Lib.hid hn
  obtain ⟨c0, c1, c2, _⟩ := hG W hW
  obtain ⟨ha1, ha2⟩ := ha
  obtain ⟨⟨sp0, sp1⟩, _⟩ := id hn
  unfold farN at sp1
  clear hG hGd hGK hY hJ hn hl
  refine callsIn_of_wp Tryz.func67 rfl trivial ?_ rfl
  simp only [Tryz.ntmps67, List.size_toArray, List.length_cons, List.length_nil, Nat.reduceAdd, Nat.reduceSub, Array.replicate_succ, Array.replicate_zero, List.push_toArray, List.append_toArray, List.nil_append, List.cons_append]
  by_cases h1 : a < 0
  · have HE := Lib.hid (show leftN zs a = 0 by unfold leftN; rw [if_neg (by omega)])
    gi_wp2
    refine bodyPost_ret (results_none rfl _ _ _) rfl ?_
    exact ⟨⟨_, rfl⟩, .inl ⟨[], by rw [HE.out]; rfl, h0⟩⟩
  by_cases h2 : (m : Int) ≤ a
  · have HE := Lib.hid (show leftN zs a = 0 by unfold leftN; rw [if_neg (by have := HL.out; omega)])
    gi_wp2
    refine bodyPost_ret (results_none rfl _ _ _) rfl ?_
    exact ⟨⟨_, rfl⟩, .inl ⟨[], by rw [HE.out]; rfl, h0⟩⟩
  obtain ⟨i, rfl⟩ : ∃ i : Nat, a = (i : Int) := ⟨a.toNat, by omega⟩
  have him : i < m := by omega
  have HE := Lib.hid (show leftN zs (i : Int) = m - i by unfold leftN; rw [if_pos (by have := HL.out; omega), Int.toNat_natCast, HL.out])
  have HJ0 := Lib.hid h0
  have HW := Lib.hid hW
  have hd0 : decide ((i : Int) < 0) = false := decide_eq_false (by omega)
  have hd1 : decide ((m : Int) ≤ (i : Int)) = false := decide_eq_false (by omega)
  have hd2 : decide (m ≤ i) = false := decide_eq_false (by omega)
  clear h0 hW h1 h2
  gi_wp2
  gi_loopw [5, 6] (fun t i' wr => ∃ (k : Nat) (z : Int) (pre : List K9), t = .int .i64 z ∧ i' = .int .i64 ((i + k + 1 : Nat) : Int) ∧ i + k ≤ m ∧ Hid (z = wideK zs sp (i : Int) k) ∧ Hid (pre.map (·.1) = List.range k) ∧ Hid (J pre wr) ∧ Hid (G wr)) (fun _ i' _ => m + 1 - (intOf i').toNat)
  case atStart => exact ⟨0, _, [], rfl, by go_num, by omega, Lib.hid (by show _ = -sp; go_num), Lib.hid rfl, HJ0, HW⟩
  case round =>
    obtain ⟨k, z, pre, rfl, rfl, hkm, HZ, HP, HJp, HO⟩ := hrel
    obtain ⟨c0, c1, c2, hints⟩ := HG.out wr HO.out
    have HI := Lib.hid hints
    have hzb := wideK_bd HN.out (by rw [HL.out]; omega) (i : Int) k
    rw [← HZ.out] at hzb
    obtain ⟨hz0, hz1⟩ := hzb
    clear hints
    by_cases hlt : i + k < m
    · have hlt2 : ((i + k + 1 : Nat) : Int) ≤ (m : Int) := by omega
      obtain ⟨b', off, rfl, hc⟩ := HI.out.at_ (show i + k < m by omega)
      obtain ⟨u, hu⟩ : ∃ u, zs[i + k]?.getD 0 = u := ⟨_, rfl⟩
      rw [hu] at hc
      have hub := word_bd HN.out (i + k)
      unfold wordI at hub
      rw [hu] at hub
      obtain ⟨hu0, hu1⟩ := hub
      unfold farN at hu1
      have HZ2 := Lib.hid (show z + (sp + u) = wideK zs sp (i : Int) (k + 1) by rw [wideK_step (by omega) (by rw [HL.out]; omega), HZ.out, Int.toNat_natCast]; unfold wordI; rw [hu])
      have hlen : pre.length < 1001 := by
        have h1 := congrArg List.length HP.out
        rw [List.length_map, List.length_range] at h1; omega
      obtain ⟨kx, hkx⟩ : ∃ x : K9, x.1 = k := ⟨⟨k, by omega⟩, rfl⟩
      have hbd : Below wr.heap.size wr wr.drew := Below.drew (Below.refl _ _)
      have HOd := Lib.hid (HGd.out wr HO.out)
      obtain ⟨fn, tmps, assign, body, hy, hR⟩ := HY.out pre kx wr.drew (HJ.out pre wr wr.drew none HJp.out (grown_of_below9 hbd none) (fun r e => by cases e)) hlen
      have henc : enc9 zs sp (i : Int) kx = #[.int .i64 ((i : Int) + (k : Int) + 1), .int .i64 (z + (sp + u))] := by
        unfold enc9; rw [hkx, ← HZ2.out]
      rw [henc] at hy
      have HP2 := Lib.hid (show (pre ++ [kx]).map (·.1) = List.range (k + 1) by rw [List.map_append, HP.out, List.range_succ]; simp [hkx])
      clear hu hkx hlen hbd
      gi_wp2_with (fail)
      gi_region
      gi_wp2_with (fail)
      refine ⟨wide_deep9 _, ?_⟩
      refine hR.mono ?_
      rintro e W3 (⟨rfl, hJ4, hk4⟩ | ⟨rfl, hx4⟩)
      · have HJ4 := Lib.hid hJ4
        have HO4 := Lib.hid (HGK.out _ _ HOd.out hk4)
        clear hJ4 hk4 hy hR c0 c1 c2 hc
        gi_wp2_with (fail)
        go_roundw
        case rel => exact ⟨k + 1, z + (sp + u), pre ++ [kx], rfl, by go_num, by omega, HZ2, HP2, HJ4, HO4⟩
        case measure => simp [intOf] <;> omega
      · gi_wp2
        refine bodyPost_ret (results_none rfl _ _ _) rfl ?_
        exact ⟨⟨_, rfl⟩, .inr ⟨pre ++ [kx], ⟨k, by rw [HE.out]; omega, HP2.out⟩, hx4⟩⟩
    · have hge : (m : Int) < ((i + k + 1 : Nat) : Int) := by omega
      gi_wp2
      go_end0
      exact ⟨⟨_, rfl⟩, .inl ⟨pre, by rw [HP.out, HE.out, show k = m - i by omega], HJp.out⟩⟩
/-- the range, as its callers take it. -/
theorem ends_stops (b : Nat) (w0 : World) {zs : List Int} {sp a : Int} (hn : Near9 zs sp) {A : Option Addr} {m c : Nat} (hm : m ≤ 1000) (ha : I64w a) (hl : zs.length = m)
    (G : World → Prop) (Kp : World → World → Prop) (hG : ∀ V, G V → Reads9 zs sp a A m c b V) (hGd : ∀ V, G V → G V.drew) (hGK : ∀ X Y, G X → Kp X Y → G Y) (hG0 : ∀ V, On w0 V → G V) (n : Nat) :
    SeqStopsK Fence.wide n Tryz.prog 67 #[.pointer (some ⟨b + 2, 0, none⟩), .pointer (some ⟨b, 0, none⟩), .pointer (some ⟨b + 1, 0, none⟩)] (enc9 zs sp a) Kp (fun xs => xs.map (·.1) = List.range (leftN zs a)) (fun pre => ∃ q, q < leftN zs a ∧ pre.map (·.1) = List.range (q + 1)) 1001 w0 :=
  fun l J Jx W hW hJ hJx hY h0 => ends1_in n l b hn hm ha hl G Kp hG hGd hGK J Jx W (hG0 W hW) hJ hY h0
theorem ends_in (A : Option Addr) (m c : Nat) (sp a : Int) (w : World) : Calls Tryz.prog 33 #[.slice A m c, .int .i64 sp, .int .i64 a] w fun e w' => e = .returned (.func (.func 67) #[] #[.pointer (some ⟨w.heap.size + 2, 0, none⟩), .pointer (some ⟨w.heap.size, 0, none⟩), .pointer (some ⟨w.heap.size + 1, 0, none⟩)]) ∧ w' = ((w.alloc (.cells #[.slice A m c] 38)).alloc (.cells #[.int .i64 sp] 3)).alloc (.cells #[.int .i64 a] 3) := by
  go_enter Tryz.func33, Tryz.ntmps33
  go_wp2_with fail
  go_ret
  exact ⟨rfl, rfl⟩
theorem three_boxes (w : World) (u v x : Value) (t1 t2 t3 : TypeId) (V : World) (hV : V = ((w.alloc (.cells #[u] t1)).alloc (.cells #[v] t2)).alloc (.cells #[x] t3)) : V.heap[w.heap.size]? = some (.cells #[u] t1) ∧ V.heap[w.heap.size + 1]? = some (.cells #[v] t2) ∧ V.heap[w.heap.size + 2]? = some (.cells #[x] t3) ∧ On w V ∧ V.heap.size = w.heap.size + 3 := by
  subst hV
  refine ⟨(Below.heap_alloc _ _ _ (by simp; omega)).trans ((Below.heap_alloc _ _ _ (by simp)).trans (World.alloc_heap_new w _)), (Below.heap_alloc _ _ _ (by simp)).trans ?_, ?_, (((Below.refl _ w).alloc (Nat.le_refl _) _).alloc (by simp) _).alloc (by simp; omega) _, by simp⟩
  · have := World.alloc_heap_new (w.alloc (.cells #[u] t1)) (.cells #[v] t2)
    rwa [World.size_alloc] at this
  · have := World.alloc_heap_new ((w.alloc (.cells #[u] t1)).alloc (.cells #[v] t2)) (.cells #[x] t3)
    rwa [World.size_alloc, World.size_alloc] at this
end Go.Proofs.YtdjnaejblgheoaaGreat
/- The program's package words: the line from a word on. -/
namespace Go.Proofs.YtdjnaejblgheoaaGreat
open Go.RowKit Go.Shelf
set_option linter.unusedVariables false
set_option linter.unusedSimpArgs false
attribute [local go_sem] Oper.semAt_some
/-- the line that stands behind so many words. -/
def lineK (zs : List Int) (sp a : Int) (pre : List K9) : List Value :=
  match pre.getLast? with
  | none => [.int .i64 0, .int .i64 0, .int .i64 0]
  | some k => [.int .i64 a, .int .i64 (a + ((k.1 : Nat) : Int) + 1), .int .i64 (wideK zs sp a (k.1 + 1))]
/-- what stays, while Take's loop runs: the width, the word, the block of the answer. -/
def TakB (w : World) (wd a : Int) (W : World) : Prop := Boxed W w.heap.size 3 (.int .i64 wd) ∧ Boxed W (w.heap.size + 1) 3 (.int .i64 a) ∧ BoxN W (w.heap.size + 2) 136 [.int .i64 0, .int .i64 0, .int .i64 0] ∧ Below w.heap.size w W
/-- between two rounds of Take's loop. -/
def TakI (w : World) (zs : List Int) (sp wd a : Int) (pre : List K9) (W : World) : Prop := (∀ k ∈ pre, k.1 = 0 ∨ wideK zs sp a (k.1 + 1) ≤ wd) ∧ TakB w wd a W ∧ BoxN W (w.heap.size + 3) 136 (lineK zs sp a pre)
/-- where a round ended the loop. -/
def TakX (w : World) (zs : List Int) (sp wd a : Int) (c0 c : Code) (pre : List K9) (W : World) : Prop := c = c0 ∧ ∃ (p : List K9) (k : K9), pre = p ++ [k] ∧ k.1 ≠ 0 ∧ wd < wideK zs sp a (k.1 + 1) ∧ TakI w zs sp wd a p W
theorem takB_own {w : World} {wd a : Int} {B : Nat} (hB : w.heap.size ≤ B) {X Y : World} {row : Option Nat} (h : TakB w wd a X) (hg : X.grownBy Y row) (hr : ∀ r, row = some r → B ≤ r ∧ ∃ o : Obj, X.heap[r]? = some o ∧ o.isCells = false) : TakB w wd a Y :=
  ⟨boxed_kept9 h.1 hg hr, boxed_kept9 h.2.1 hg hr, h.2.2.1.own hg hr, ownFrom_below (β := Unit) (w₀ := w) (Nat.le_refl _) hB () X Y row h.2.2.2 hg hr⟩
theorem takI_own {w : World} {zs : List Int} {sp wd a : Int} {B : Nat} (hB : w.heap.size ≤ B) : OwnFrom B (TakI w zs sp wd a) := fun pre X Y row ⟨h0, h1, h2⟩ hg hr =>
  ⟨h0, takB_own hB h1 hg hr, h2.own hg hr⟩
theorem takX_own {w : World} {zs : List Int} {sp wd a : Int} {B : Nat} {c0 : Code} (hB : w.heap.size ≤ B) (c : Code) : OwnFrom B (TakX w zs sp wd a c0 c) := fun pre X Y row ⟨h0, p, k, h1, h2, h3, h4⟩ hg hr =>
  ⟨h0, p, k, h1, h2, h3, takI_own hB p X Y row h4 hg hr⟩
theorem lineK_last (zs : List Int) (sp a : Int) (pre : List K9) (k : K9) : lineK zs sp a (pre ++ [k]) = [.int .i64 a, .int .i64 (a + ((k.1 : Nat) : Int) + 1), .int .i64 (wideK zs sp a (k.1 + 1))] := by
  unfold lineK; rw [List.getLast?_concat]
theorem lineK_three (zs : List Int) (sp a : Int) (pre : List K9) : ∃ l0 l1 l2 : Int, lineK zs sp a pre = [.int .i64 l0, .int .i64 l1, .int .i64 l2] := by
  unfold lineK; split
  · exact ⟨_, _, _, rfl⟩
  · exact ⟨_, _, _, rfl⟩
/-- the line that stands at the end is the one that is asked for. -/
theorem line_is {zs : List Int} {sp wd a x y z : Int} (hv : takeI zs sp wd a = (x, y, z)) (hn : Near9 zs sp) {pre : List K9} {q : Nat} (hq : q ≤ leftN zs a) (hp : pre.map (·.1) = List.range q) (h1 : ∀ k ∈ pre, k.1 = 0 ∨ wideK zs sp a (k.1 + 1) ≤ wd)
    (hstop : q = leftN zs a ∨ (q ≠ 0 ∧ q < leftN zs a ∧ wd < wideK zs sp a (q + 1))) : lineK zs sp a pre = [.int .i64 x, .int .i64 y, .int .i64 z] := by
  by_cases ha : 0 ≤ a ∧ a < (zs.length : Int)
  · have hl : leftN zs a = zs.length - a.toNat := by unfold leftN; rw [if_pos ha]
    obtain ⟨i, rfl⟩ : ∃ i : Nat, a = (i : Int) := ⟨a.toNat, by omega⟩
    rw [Int.toNat_natCast] at hl
    have hi : i < zs.length := by omega
    rw [takeI_nat hi] at hv
    cases q with
    | zero => rcases hstop with h | h <;> omega
    | succ q =>
      obtain ⟨p, k, rfl⟩ : ∃ p k, pre = p ++ [k] := by
        rcases List.eq_nil_or_concat pre with h | ⟨p, k, h⟩
        · subst h; rw [List.range_succ] at hp; exact absurd (congrArg List.length hp) (by simp)
        · exact ⟨p, k, by simpa using h⟩
      have hk : k.1 = q := by
        rw [List.map_append, List.range_succ] at hp
        have := List.append_inj_right' hp rfl
        simpa using this
      have hlt : LineTo zs sp wd i (i + (q + 1)) := by
        refine ⟨by omega, by omega, ?_⟩
        rcases h1 k (by simp) with h | h
        · left; omega
        · right; rw [hk] at h; exact h
      have hfu : Full zs sp wd i (i + (q + 1)) := by
        intro h
        rcases hstop with h2 | ⟨_, _, h2⟩
        · omega
        · exact h2
      have he : i + (q + 1) = endP zs sp wd i := full_one hn hlt hfu (endP_spec hi).1 (endP_spec hi).2
      unfold takeN at hv
      rw [← he] at hv
      injection hv with e1 hv
      injection hv with e2 e3
      rw [lineK_last, hk, ← e1, ← e2, ← e3]
      congr 3
  · have hl : leftN zs a = 0 := by unfold leftN; rw [if_neg ha]
    rw [takeI_bad (by omega)] at hv
    injection hv with e1 hv
    injection hv with e2 e3
    have : pre = [] := by
      obtain rfl : q = 0 := by omega
      exact List.map_eq_nil_iff.1 hp
    subst this e1 e2 e3
    rfl
/-- what the range reads, while Take's line is written. -/
def TakG (w : World) (sp a : Int) (A : Option Addr) (m c D : Nat) (V : World) : Prop := Below w.heap.size w V ∧ Boxed V D 38 (.slice A m c) ∧ Boxed V (D + 1) 3 (.int .i64 sp) ∧ Boxed V (D + 2) 3 (.int .i64 a)
theorem takG_reads {w : World} {zs : List Int} {sp a : Int} {A : Option Addr} {m c D : Nat} (hA : Ints w A m zs) {V : World} (h : TakG w sp a A m c D V) : Reads9 zs sp a A m c D V := ⟨h.2.1.cell, h.2.2.1.cell, h.2.2.2.cell, hA.below h.1 rfl⟩
theorem takG_drew {w : World} {sp a : Int} {A : Option Addr} {m c D : Nat} {V : World} (h : TakG w sp a A m c D V) : TakG w sp a A m c D V.drew := ⟨h.1.drew, h.2.1, h.2.2.1, h.2.2.2⟩
theorem takG_on {w w2 : World} {sp a : Int} {A : Option Addr} {m c D : Nat} (h : TakG w sp a A m c D w2) {V : World} (hb : On w2 V) : TakG w sp a A m c D V := ⟨below_then h.1 hb, (hb.block _ h.2.1.lt).trans h.2.1, (hb.block _ h.2.2.1.lt).trans h.2.2.1, (hb.block _ h.2.2.2.lt).trans h.2.2.2⟩
theorem takG_put {w W : World} {sp a : Int} {A : Option Addr} {m c D l : Nat} {o o' : Obj} (hl : w.heap.size ≤ l) (ho : W.heap[l]? = some o) (hc : o.isCells = false) (hw : o.isWalk = false) (h : TakG w sp a A m c D W) : TakG w sp a A m c D (W.putObj l o') := by
  have hne : ∀ {n : Nat} {t : TypeId} {v : Value}, Boxed W n t v → some n ≠ some l := fun {n t v} hb e => by
    injection e with e
    subst e
    rw [show W.heap[n]? = _ from hb] at ho; cases ho; cases hc
  exact ⟨belowK_b (Nat.le_refl _) W l o o' hl ho hc hw |> h.1.trans, h.2.1.kept (grownBy_putObj' _ _ _) (hne h.2.1), h.2.2.1.kept (grownBy_putObj' _ _ _) (hne h.2.2.1), h.2.2.2.kept (grownBy_putObj' _ _ _) (hne h.2.2.2)⟩
theorem takG_set {w W : World} {sp a : Int} {A : Option Addr} {m c D n : Nat} (hn : w.heap.size ≤ n) (hD : n < D) (j : Nat) (v : Value) (h : TakG w sp a A m c D W) : TakG w sp a A m c D (W.setCell ⟨n, j, none⟩ v) :=
  ⟨h.1.setCell hn _, h.2.1.kept (grownBy_setCellN W n j v) (fun e => by cases e; omega), h.2.2.1.kept (grownBy_setCellN W n j v) (fun e => by cases e; omega), h.2.2.2.kept (grownBy_setCellN W n j v) (fun e => by cases e; omega)⟩
set_option maxRecDepth 100000 in
set_option maxHeartbeats 4000000 in
theorem ptake_in {zs : List Int} {sp wd a x y z : Int} (hv : takeI zs sp wd a = (x, y, z)) (hn : Near9 zs sp) (ha : I64w a) (hwd : I64w wd) {A : Option Addr} {m c : Nat} (hm : m ≤ 1000) {w : World} (h : Ints w A m zs) :
    CallsIn Fence.wide 9 Tryz.prog 81 #[.slice A m c, .int .i64 sp, .int .i64 wd, .int .i64 a] w fun e w' => e = .returned (.agg #[.int .i64 x, .int .i64 y, .int .i64 z]) ∧ Below w.heap.size w w' := by
  have HA := Lib.hid h
  have HV := Lib.hid hv
  have HN := Lib.hid hn
  have HIa := Lib.hid ha
  have HIb := Lib.hid hwd
  clear h hv hn ha hwd
  refine callsIn_of_wp_marks Tryz.func81 rfl trivial ?_ rfl
  simp only [Tryz.ntmps81, List.size_toArray, List.length_cons, List.length_nil, Nat.reduceAdd, Nat.reduceSub, Array.replicate_succ, Array.replicate_zero, List.push_toArray, List.append_toArray, List.nil_append, List.cons_append]
  gi_wp2_with ((refine ⟨trivial, ?_⟩; gi_at_call 33; refine (callsIn_wide.2 (ends_in _ _ _ _ _ _)).mono ?_; rintro e w2 ⟨rfl, hw2⟩; have HW2 := Lib.hid hw2; clear hw2))
  have hw2 := HW2.out
  clear HW2
  obtain ⟨W1, hW1⟩ : ∃ W1, (((w.alloc (.cells #[.int .i64 wd] 3)).alloc (.cells #[.int .i64 a] 3)).alloc (.cells #[.int .i64 0, .int .i64 0, .int .i64 0] 136)).alloc (.cells #[.int .i64 0, .int .i64 0, .int .i64 0] 136) = W1 := ⟨_, rfl⟩
  rw [hW1] at hw2
  have hs1 : W1.heap.size = w.heap.size + 4 := by rw [← hW1]; simp
  have hB1 : Below w.heap.size w W1 := by rw [← hW1]; exact ((((Below.refl _ w).alloc (Nat.le_refl _) _).alloc (by simp) _).alloc (by simp; omega) _).alloc (by simp; omega) _
  have k0 : Boxed W1 w.heap.size 3 (.int .i64 wd) := by rw [← hW1]; exact (((Boxed.new w 3 (.int .i64 wd)).alloc _).alloc _).alloc _
  have k1 : Boxed W1 (w.heap.size + 1) 3 (.int .i64 a) := by
    rw [← hW1]
    have := Boxed.new (w.alloc (.cells #[.int .i64 wd] 3)) 3 (.int .i64 a)
    rw [World.size_alloc] at this
    exact (this.alloc _).alloc _
  have k2 : BoxN W1 (w.heap.size + 2) 136 [.int .i64 0, .int .i64 0, .int .i64 0] := by
    rw [← hW1]
    have := BoxN.new ((w.alloc (.cells #[.int .i64 wd] 3)).alloc (.cells #[.int .i64 a] 3)) 136 [.int .i64 0, .int .i64 0, .int .i64 0]
    rw [World.size_alloc, World.size_alloc] at this
    exact this.alloc _
  have k3 : BoxN W1 (w.heap.size + 3) 136 [.int .i64 0, .int .i64 0, .int .i64 0] := by
    rw [← hW1]
    have := BoxN.new (((w.alloc (.cells #[.int .i64 wd] 3)).alloc (.cells #[.int .i64 a] 3)).alloc (.cells #[.int .i64 0, .int .i64 0, .int .i64 0] 136)) 136 [.int .i64 0, .int .i64 0, .int .i64 0]
    rw [World.size_alloc, World.size_alloc, World.size_alloc] at this
    exact this
  obtain ⟨g1, g2, g3, g4, g5⟩ := three_boxes W1 _ _ _ _ _ _ w2 hw2
  have hB2 : Below w.heap.size w w2 := below_then hB1 g4
  have hT0 : TakI w zs sp wd a [] w2 := ⟨by simp, ⟨(g4.block w.heap.size (by omega)).trans k0, (g4.block (w.heap.size + 1) (by omega)).trans k1, k2.below g4 (by omega), hB2⟩, k3.below g4 (by omega)⟩
  rw [show w.heap.size + 1 + 1 + 1 + 1 = W1.heap.size by omega]
  have hG2 : TakG w sp a A m c W1.heap.size w2 := ⟨hB2, g1, g2, g3⟩
  have HST := Lib.hid (ends_stops W1.heap.size w2 HN.out hm HIa.out HA.out.1 (TakG w sp a A m c W1.heap.size) (fun X Y => TakG w sp a A m c W1.heap.size X → TakG w sp a A m c W1.heap.size Y) (fun V h => takG_reads HA.out h) (fun V h => takG_drew h) (fun X Y h k => k h) (fun V h => takG_on hG2 h))
  have hz1 : w.heap.size + 4 ≤ W1.heap.size := by omega
  have hz2 : W1.heap.size + 3 ≤ w2.heap.size := by omega
  clear hw2 hB1 g1 g2 g3 g4 g5 hs1 k0 k1 k2 k3 hW1
  rw [show w.heap.size + 1 + 1 + 1 = w.heap.size + 3 by omega, show w.heap.size + 1 + 1 = w.heap.size + 2 by omega]
  refine wpIn_rangeFunc_ownF (F := Fence.wide) rfl (by omega) (gf := 67) (lb := #[.pointer (some ⟨W1.heap.size + 2, 0, none⟩), .pointer (some ⟨W1.heap.size, 0, none⟩), .pointer (some ⟨W1.heap.size + 1, 0, none⟩)]) rfl trivial (enters_of Tryz.func67 (by kernel_rfl) rfl)
    (HST.out 8) (fun h k g => k (h g)) (fun W l o o' hl ho hc hw g => takG_put (by have := hG2.1.size; omega) ho hc hw g) (Below.refl _ _) (fun _ => rfl) (TakI w zs sp wd a) (TakX w zs sp wd a (.exit 0)) (takI_own (by omega)) (fun c => takX_own (by omega) c) hT0
    (fun x => { tmps := #[.slice A m c, .int .i64 sp, .int .i64 wd, .int .i64 a, undef, undef, .pointer (some ⟨w.heap.size, 0, none⟩), .pointer (some ⟨w.heap.size + 1, 0, none⟩), .pointer (some ⟨w.heap.size + 2, 0, none⟩), .pointer (some ⟨w.heap.size + 3, 0, none⟩), .int .i64 (a + ((x.1 : Nat) : Int) + 1), .int .i64 (wideK zs sp a (x.1 + 1)), .slice A m c, .int .i64 sp, .int .i64 a, .func (.func 67) #[] #[.pointer (some ⟨W1.heap.size + 2, 0, none⟩), .pointer (some ⟨W1.heap.size, 0, none⟩), .pointer (some ⟨W1.heap.size + 1, 0, none⟩)], .int .i64 (a + ((x.1 : Nat) : Int) + 1), .int .i64 (wideK zs sp a (x.1 + 1)), undef, undef, undef, undef, undef, undef, undef, undef, undef, undef, undef, undef, undef, undef], defers := [] }) ?assign ?body ?done ?stop
  case assign =>
    intro l x W K hK
    unfold enc9
    gi_wp2
    exact hK
  case body =>
    rintro l pre ⟨k, hk⟩ W hI _
    have HI := Lib.hid hI
    obtain ⟨hno, ⟨hv, hv1, hv2, hB⟩, hL⟩ := hI
    obtain ⟨l0, l1, l2, hl⟩ := lineK_three zs sp a pre
    rw [hl] at hL
    have hc := hv.cell
    have hc1 := hv1.cell
    have q0 := hL.cell (j := 0) rfl
    have q1 := hL.cell (j := 1) rfl
    have q2 := hL.cell (j := 2) rfl
    have f0 := hL.frozen 0
    have f1 := hL.frozen 1
    have f2 := hL.frozen 2
    show Code.wpIn _ _ _ _ _ _ _
    dsimp only
    obtain ⟨z', hz⟩ : ∃ z, wideK zs sp a (k + 1) = z := ⟨_, rfl⟩
    obtain ⟨x', hx⟩ : ∃ x, a + ((k : Nat) : Int) + 1 = x := ⟨_, rfl⟩
    rw [hz, hx]
    have HZ := Lib.hid hz
    have HX := Lib.hid hx
    have HNO := Lib.hid hno
    have hK : ∀ V, V = ((W.setCell ⟨w.heap.size + 3, 0, none⟩ (.int .i64 a)).setCell ⟨w.heap.size + 3, 1, none⟩ (.int .i64 x')).setCell ⟨w.heap.size + 3, 2, none⟩ (.int .i64 z') → (k = 0 ∨ z' ≤ wd) → KeepsOthers W V ∧ (TakG w sp a A m c W1.heap.size W → TakG w sp a A m c W1.heap.size V) ∧ TakI w zs sp wd a (pre ++ [⟨k, hk⟩]) V := by
      rintro V rfl hkz
      refine ⟨((KeepsOthers.setCell _ _ _).trans (KeepsOthers.setCell _ _ _)).trans (KeepsOthers.setCell _ _ _), fun g => takG_set (by omega) (by omega) _ _ (takG_set (by omega) (by omega) _ _ (takG_set (by omega) (by omega) _ _ g)), ?_, ⟨((hv.kept (grownBy_setCellN _ _ _ _) (by simp)).kept (grownBy_setCellN _ _ _ _) (by simp)).kept (grownBy_setCellN _ _ _ _) (by simp), ((hv1.kept (grownBy_setCellN _ _ _ _) (by simp)).kept (grownBy_setCellN _ _ _ _) (by simp)).kept (grownBy_setCellN _ _ _ _) (by simp), ((hv2.other (by omega) _).other (by omega) _).other (by omega) _, ((hB.setCell (by simp) _).setCell (by simp) _).setCell (by simp) _⟩, ?_⟩
      · intro y hy
        rcases List.mem_append.1 hy with h | h
        · exact HNO.out y h
        · rw [List.mem_singleton] at h
          subst h
          show k = 0 ∨ wideK zs sp a (k + 1) ≤ wd
          rw [HZ.out]; exact hkz
      · rw [lineK_last]
        show BoxN _ _ _ [.int .i64 a, .int .i64 (a + ((k : Nat) : Int) + 1), .int .i64 (wideK zs sp a (k + 1))]
        rw [HZ.out, HX.out]
        exact ((hL.set 0 _).set 1 _).set 2 _
    have HK := Lib.hid hK
    clear hz hx hno hK hl
    by_cases hk0 : k = 0
    · subst hk0
      have hwr : IntKind.i64.wrap (x' - a) = 1 := by rw [← HX.out]; rw [show a + ((0 : Nat) : Int) + 1 - a = 1 by omega]; rfl
      gi_wp2
      exact HK.out _ rfl (.inl trivial)
    · obtain ⟨k, rfl⟩ : ∃ j, k = j + 1 := ⟨k - 1, by omega⟩
      have hwr : IntKind.i64.wrap (x' - a) = (k : Int) + 2 := by rw [← HX.out]; rw [show a + ((k + 1 : Nat) : Int) + 1 - a = (k : Int) + 2 by omega]; exact IntWalk.i64_in _ (by omega)
      by_cases hzw : z' ≤ wd
      · gi_wp2
        exact HK.out _ rfl (.inr hzw)
      · have hzw2 : wd < z' := by omega
        gi_wp2
        refine ⟨KeepsOthers.refl _, ?_⟩
        exact ⟨rfl, pre, ⟨k + 1, hk⟩, rfl, by simp, by show wd < wideK zs sp a (k + 1 + 1); rw [HZ.out]; exact hzw2, HI.out⟩
  case done =>
    rintro D xs W hD hxs ⟨hno, ⟨hv, hv1, hv2, hB⟩, hL⟩ hK
    rw [line_is HV.out HN.out (Nat.le_refl _) hxs hno (.inl rfl)] at hL
    clear hxs hno
    have q0 := hL.cell (j := 0) rfl
    have q1 := hL.cell (j := 1) rfl
    have q2 := hL.cell (j := 2) rfl
    have s0 := hv2.cell (j := 0) rfl
    have s1 := hv2.cell (j := 1) rfl
    have s2 := hv2.cell (j := 2) rfl
    have f0 := hv2.frozen 0
    have f1 := hv2.frozen 1
    have f2 := hv2.frozen 2
    gi_wp2
    have hD0 : w.heap.size + 2 ≠ D := by omega
    have hY := ((hv2.set 0 (.int .i64 x)).set 1 (.int .i64 y)).set 2 (.int .i64 z)
    have hBY : Below w.heap.size w (((W.setCell ⟨w.heap.size + 2, 0, none⟩ (.int .i64 x)).setCell ⟨w.heap.size + 2, 1, none⟩ (.int .i64 y)).setCell ⟨w.heap.size + 2, 2, none⟩ (.int .i64 z)) := ((hB.setCell (by simp) _).setCell (by simp) _).setCell (by simp) _
    generalize hV : ((W.setCell ⟨w.heap.size + 2, 0, none⟩ (.int .i64 x)).setCell ⟨w.heap.size + 2, 1, none⟩ (.int .i64 y)).setCell ⟨w.heap.size + 2, 2, none⟩ (.int .i64 z) = V at hY hBY ⊢
    have e0 : V.heap[D]? = some (.deferred (some [])) := by
      rw [← hV]
      exact (Below.heap_setCell _ _ _ D (by simpa using hD0.symm)).trans ((Below.heap_setCell _ _ _ D (by simpa using hD0.symm)).trans ((Below.heap_setCell _ _ _ D (by simpa using hD0.symm)).trans hK))
    have hYp := hY.kept (grownBy_putObj' V D (.deferred none)) (fun e => hD0 (by cases e; rfl))
    have r0 := hYp.cell (j := 0) rfl
    have r1 := hYp.cell (j := 1) rfl
    have r2 := hYp.cell (j := 2) rfl
    refine ⟨by simp, .inl ⟨_, _, rfl, run_takeDeferred e0, ?_⟩⟩
    refine ⟨.agg #[.int .i64 x, .int .i64 y, .int .i64 z], by simp [results, Tryz.results81, go_sem, r0, r1, r2], ?_⟩
    exact ⟨rfl, hBY.grown (grownBy_putObj' _ _ _) (by have := hBY.size; omega) (fun k e => by cases e; omega)⟩
  case stop =>
    rintro D c2 pre W hD ⟨q, hq1, hq2⟩ ⟨rfl, p, k, rfl, hk0, hkw, hno, ⟨hv, hv1, hv2, hB⟩, hL⟩ hK
    rw [List.map_append, List.range_succ] at hq2
    have e1 : k.1 = q := by simpa using List.append_inj_right' hq2 rfl
    have e2 : p.map (·.1) = List.range q := List.append_inj_left' hq2 rfl
    rw [line_is HV.out HN.out (Nat.le_of_lt hq1) e2 hno (.inr ⟨by omega, hq1, by rw [← e1]; exact hkw⟩)] at hL
    clear hq1 hq2 e1 e2 hkw hk0 hno
    have q0 := hL.cell (j := 0) rfl
    have q1 := hL.cell (j := 1) rfl
    have q2 := hL.cell (j := 2) rfl
    have s0 := hv2.cell (j := 0) rfl
    have s1 := hv2.cell (j := 1) rfl
    have s2 := hv2.cell (j := 2) rfl
    have f0 := hv2.frozen 0
    have f1 := hv2.frozen 1
    have f2 := hv2.frozen 2
    gi_wp2
    have hD0 : w.heap.size + 2 ≠ D := by omega
    have hY := ((hv2.set 0 (.int .i64 x)).set 1 (.int .i64 y)).set 2 (.int .i64 z)
    have hBY : Below w.heap.size w (((W.setCell ⟨w.heap.size + 2, 0, none⟩ (.int .i64 x)).setCell ⟨w.heap.size + 2, 1, none⟩ (.int .i64 y)).setCell ⟨w.heap.size + 2, 2, none⟩ (.int .i64 z)) := ((hB.setCell (by simp) _).setCell (by simp) _).setCell (by simp) _
    generalize hV : ((W.setCell ⟨w.heap.size + 2, 0, none⟩ (.int .i64 x)).setCell ⟨w.heap.size + 2, 1, none⟩ (.int .i64 y)).setCell ⟨w.heap.size + 2, 2, none⟩ (.int .i64 z) = V at hY hBY ⊢
    have e0 : V.heap[D]? = some (.deferred (some [])) := by
      rw [← hV]
      exact (Below.heap_setCell _ _ _ D (by simpa using hD0.symm)).trans ((Below.heap_setCell _ _ _ D (by simpa using hD0.symm)).trans ((Below.heap_setCell _ _ _ D (by simpa using hD0.symm)).trans hK))
    have hYp := hY.kept (grownBy_putObj' V D (.deferred none)) (fun e => hD0 (by cases e; rfl))
    have r0 := hYp.cell (j := 0) rfl
    have r1 := hYp.cell (j := 1) rfl
    have r2 := hYp.cell (j := 2) rfl
    refine ⟨by simp, .inl ⟨_, _, rfl, run_takeDeferred e0, ?_⟩⟩
    refine ⟨.agg #[.int .i64 x, .int .i64 y, .int .i64 z], by simp [results, Tryz.results81, go_sem, r0, r1, r2], ?_⟩
    exact ⟨rfl, hBY.grown (grownBy_putObj' _ _ _) (by have := hBY.size; omega) (fun k e => by cases e; omega)⟩
theorem ptake9_to {zs : List Int} {sp wd a x y z : Int} (hv : takeI zs sp wd a = (x, y, z)) (hn : Near9 zs sp) (ha : I64w a) (hwd : I64w wd) {A : Option Addr} {m c : Nat} (hm : m ≤ 1000) {w : World} (h : Ints w A m zs) :
    Calls Tryz.prog 81 #[.slice A m c, .int .i64 sp, .int .i64 wd, .int .i64 a] w fun e w' => e = .returned (.agg #[.int .i64 x, .int .i64 y, .int .i64 z]) ∧ Below w.heap.size w w' := callsIn_wide.1 (ptake_in hv hn ha hwd hm h)
end Go.Proofs.YtdjnaejblgheoaaGreat
/- The program's functions of package bands on one float: the rectangle that it covers, where it ends, what it leaves, whether it narrows. -/
namespace Go.Proofs.YtdjnaejblgheoaaGreat
open Go.RowKit
set_option linter.unusedVariables false
set_option linter.unusedSimpArgs false
theorem Box.new5 (w : World) (a b c d e : Value) (t : TypeId) : Box (w.alloc (.cells #[a, b, c, d, e] t)) w.heap.size [a, b, c, d, e] := Box.new w [a, b, c, d, e] t
theorem Box.of5 {w : World} {n : Nat} {a b c d e : Value} (h : Box w n [a, b, c, d, e]) : (w.cell? ⟨n, 0, none⟩ = some a ∧ w.cell? ⟨n, 1, none⟩ = some b ∧ w.cell? ⟨n, 2, none⟩ = some c ∧ w.cell? ⟨n, 3, none⟩ = some d ∧ w.cell? ⟨n, 4, none⟩ = some e) ∧ n < w.heap.size :=
  ⟨⟨h.2.2 0 _ rfl, h.2.2 1 _ rfl, h.2.2 2 _ rfl, h.2.2 3 _ rfl, h.2.2 4 _ rfl⟩, h.1⟩
theorem placed_to (f : Fl) (w : World) : Calls Tryz.prog 129 #[.agg #[.int .i64 f.node, .int .i64 f.side, .int .i64 f.anchor, .int .i64 f.x, .int .i64 f.y, .int .i64 f.w, .int .i64 f.h]] w fun e w' => e = .returned (.agg #[.int .i64 f.x, .int .i64 f.y, .int .i64 f.w, .int .i64 f.h, .int .i64 f.side]) ∧ Below w.heap.size w w' := by
  obtain ⟨f0, f1, f2, f3, f4, f5, f6⟩ := f
  go_enter Tryz.func129, Tryz.ntmps129
  go_wp2
  refine bodyPost_ret (v := .agg #[.int .i64 f3, .int .i64 f4, .int .i64 f5, .int .i64 f6, .int .i64 f1]) (by simp [results, Tryz.results129, go_sem]) rfl ⟨rfl, by go_grown⟩
theorem bottom_to {x y u h s : Int} (hw : IntKind.i64.wrap (y + h) = y + h) (w : World) : Calls Tryz.prog 94 #[.agg #[.int .i64 x, .int .i64 y, .int .i64 u, .int .i64 h, .int .i64 s]] w fun e w' => e = .returned (.int .i64 (y + h)) ∧ Below w.heap.size w w' := by
  go_enter Tryz.func94, Tryz.ntmps94
  go_wp2
  go_ret
  exact ⟨rfl, by go_grown⟩
/-- what a float leaves of a span. -/
def leaveF (x u s a b : Int) : Int × Int := if s = 1 then (max a (x + u), b) else (a, min b x)
theorem leaves_to {x y u h s a b p q : Int} (hv : leaveF x u s a b = (p, q)) (hw : IntKind.i64.wrap (x + u) = x + u) (w : World) :
    Calls Tryz.prog 165 #[.agg #[.int .i64 x, .int .i64 y, .int .i64 u, .int .i64 h, .int .i64 s], .agg #[.int .i64 a, .int .i64 b]] w fun e w' => e = .returned (.agg #[.int .i64 p, .int .i64 q]) ∧ Below w.heap.size w w' := by
  unfold leaveF at hv
  by_cases hs : s = 1
  · rw [if_pos hs] at hv
    have hsb : (s == 1) = true := by simpa using hs
    injection hv with e1 e2
    subst e1 e2
    clear hs
    go_enter Tryz.func165, Tryz.ntmps165
    go_wp2
    refine bodyPost_ret (v := .agg #[.int .i64 (max a (x + u)), .int .i64 b]) (by simp [results, Tryz.results165, go_sem]) rfl ⟨rfl, by go_grown⟩
  · rw [if_neg hs] at hv
    have hsb : (s == 1) = false := by simpa using hs
    injection hv with e1 e2
    subst e1 e2
    clear hs
    go_enter Tryz.func165, Tryz.ntmps165
    go_wp2
    refine bodyPost_ret (v := .agg #[.int .i64 a, .int .i64 (min b x)]) (by simp [results, Tryz.results165, go_sem]) rfl ⟨rfl, by go_grown⟩
theorem narrows_to {x y u h s a b : Int} {v : Bool} (hv : (leaveF x u s a b != (a, b)) = v) (hw : IntKind.i64.wrap (x + u) = x + u) (w : World) :
    Calls Tryz.prog 163 #[.agg #[.int .i64 x, .int .i64 y, .int .i64 u, .int .i64 h, .int .i64 s], .agg #[.int .i64 a, .int .i64 b]] w fun e w' => e = .returned (.bool v) ∧ Below w.heap.size w w' := by
  obtain ⟨⟨p, q⟩, hl⟩ : ∃ r, leaveF x u s a b = r := ⟨_, rfl⟩
  have HL := Lib.hid hl
  rw [hl] at hv
  have he : ∀ w : World, (Op.equalIn 10000 94 (.agg #[.int .i64 p, .int .i64 q]) (.agg #[.int .i64 a, .int .i64 b])).run Tryz.prog w = .ok (!v) w := fun w => by
    rw [sp_equal, ← hv]
    congr 1
    exact (Bool.not_not _).symm
  clear hv hl
  go_enter Tryz.func163, Tryz.ntmps163
  go_wp2_with fail
  generalize hW : (w.alloc (.cells #[.int .i64 x, .int .i64 y, .int .i64 u, .int .i64 h, .int .i64 s] 150)).alloc (.cells #[.int .i64 a, .int .i64 b] 94) = W
  have hX : Box W w.heap.size [.int .i64 x, .int .i64 y, .int .i64 u, .int .i64 h, .int .i64 s] := by rw [← hW]; exact (Box.new5 _ _ _ _ _ _ _).alloc _
  have hY : Box W (w.heap.size + 1) [.int .i64 a, .int .i64 b] := by rw [← hW]; exact Box.new2' _ _ _ _ _ (by simp)
  have HB := Lib.hid (show Below w.heap.size w W by rw [← hW]; go_grown)
  clear hW
  have k0 := OnW.cell (W := W) hX.of5.1.1
  have k1 := OnW.cell (W := W) hX.of5.1.2.1
  have k2 := OnW.cell (W := W) hX.of5.1.2.2.1
  have k3 := OnW.cell (W := W) hX.of5.1.2.2.2.1
  have k4 := OnW.cell (W := W) hX.of5.1.2.2.2.2
  obtain ⟨j0, j1⟩ := OnW.of2 hY
  clear hX hY
  have HC := Lib.hid (fun w => leaves_to (x := x) (y := y) (u := u) (h := h) (s := s) HL.out hw w)
  refine wp_region_on (by kernel_rfl) (by kernel_rfl) ?_
  repeat (go_big_quiet_step (((go_at_call 165; with_reducible exact Calls.on_of (HC.out _)))))
  refine wpQuiet_nil ?_
  intro w5 hw'
  obtain ⟨⟨w6, hOn⟩, hw''⟩ := hw'
  obtain rfl : w5 = w6 := hw''
  go_wp2_with fail
  go_ret
  exact ⟨ret_bool (by simp), below_then HB.out hOn⟩
/-- whether a float meets a strip, as the program asks it. -/
theorem meets_apart {f : Fl} {y high : Int} : decide (meetS (y, y + max high 1) (f.y, f.y + f.h) = (0, 0)) = !meetsF f y high := by
  unfold meetS tidyS meetsF
  simp only
  by_cases h1 : 0 < f.h <;> by_cases h2 : f.y < y + max high 1 <;> by_cases h3 : y < f.y + f.h
  case pos =>
    rw [if_neg (by omega), decide_eq_true h1, decide_eq_true h2, decide_eq_true h3]
    refine decide_eq_false (fun e => ?_)
    injection e with e1 e2
    omega
  all_goals
    rw [if_pos (by omega)]
    simp [h1, h2, h3]
    try omega
end Go.Proofs.YtdjnaejblgheoaaGreat
/- The program's closures of package bands: what each leaves of the variables that it has captured. -/
namespace Go.Proofs.YtdjnaejblgheoaaGreat
open Go.RowKit
set_option linter.unusedVariables false
set_option linter.unusedSimpArgs false
/-- all boxes but these stay. -/
def Spare (S : List Nat) (w w' : World) : Prop := ∀ n vs, n ∉ S → Box w n vs → Box w' n vs
theorem Spare.refl (S : List Nat) (w : World) : Spare S w w := fun _ _ _ h => h
theorem Spare.trans {S : List Nat} {w w1 w2 : World} (h : Spare S w w1) (k : Spare S w1 w2) : Spare S w w2 := fun n vs hn hb => k n vs hn (h n vs hn hb)
theorem Spare.below {S : List Nat} {w w1 w2 : World} (h : Spare S w w1) (k : Below w1.heap.size w1 w2) : Spare S w w2 := fun n vs hn hb => (h n vs hn hb).below k
theorem Spare.set {S : List Nat} {w w1 : World} {m j : Nat} {v : Value} (h : Spare S w w1) (hm : m ∈ S) : Spare S w (w1.setCell ⟨m, j, none⟩ v) := fun n vs hn hb => (h n vs hn hb).set_other (fun e => hn (e ▸ hm)) j v
set_option maxHeartbeats 1000000 in
theorem of1_to {x y u h s a b p q : Int} (hv : leaveF x u s a b = (p, q)) (hw : IntKind.i64.wrap (x + u) = x + u) {w0 w : World} {k : Nat} (hX : Box w k [.int .i64 a, .int .i64 b]) (hk : w0.heap.size ≤ k) (hB : Below w0.heap.size w0 w) :
    Calls Tryz.prog 164 #[.agg #[.int .i64 x, .int .i64 y, .int .i64 u, .int .i64 h, .int .i64 s], .pointer (some ⟨k, 0, none⟩)] w fun e w' => e = .returned (.tuple #[]) ∧ Box w' k [.int .i64 p, .int .i64 q] ∧ Spare [k] w w' ∧ Below w0.heap.size w0 w' := by
  have HV := Lib.hid hv
  clear hv
  have HX := Lib.hid hX
  obtain ⟨d0, d1, d2, d3, d4⟩ := hX.of2
  go_enter Tryz.func164, Tryz.ntmps164
  go_wp2_with fail
  refine (leaves_to HV.out hw _).mono ?_
  rintro e w1 ⟨rfl, hb⟩
  have hb2 := (Below.refl w0.heap.size w).mono (Nat.le_refl _)
  have hB1 : Below w.heap.size w w1 := below_then (by go_grown) hb
  have HX1 := Lib.hid (HX.out.below hB1)
  obtain ⟨c0, c1, c2, c3, c4⟩ := HX1.out.of2
  clear hb hb2 d0 d1 d2 d3 d4
  go_wp2_with fail
  go_end0
  refine ⟨rfl, (HX1.out.set 0 (.int .i64 p) (by simp)).set 1 (.int .i64 q) (by simp), ?_, ?_⟩
  · exact Spare.set (Spare.set (Spare.below (Spare.refl _ _) hB1) (by simp)) (by simp)
  · exact ((hB.trans (hB1.mono hB.size)).setCell hk _).setCell hk _
end Go.Proofs.YtdjnaejblgheoaaGreat
/- The document's answer for package lines: where something has room. -/
namespace Go.Proofs.YtdjnaejblgheoaaGreat
open Go.RowKit
set_option linter.unusedVariables false
set_option linter.unusedSimpArgs false
end Go.Proofs.YtdjnaejblgheoaaGreat
/- The program's closure of package bands that seeks the next height. (Written by program: tools/drafts/gennext1.py.) -/
namespace Go.Proofs.YtdjnaejblgheoaaGreat
open Go.RowKit
set_option linter.unusedVariables false
set_option linter.unusedSimpArgs false
def nextV (v : Bool) (z : Int) (s : Int × Bool) : Int × Bool := if v then (if s.2 = false ∨ z < s.1 then (z, true) else s) else s
set_option maxHeartbeats 2000000 in
theorem next1_no {x y u h s a b nx : Int} (hv : (leaveF x u s a b != (a, b)) = false) (hw : IntKind.i64.wrap (x + u) = x + u) (hw2 : IntKind.i64.wrap (y + h) = y + h) {fl : Bool} {w0 w : World} {ki kf kn : Nat}
    (hI : Box w ki [.int .i64 a, .int .i64 b]) (hF : Box w kf [.bool fl]) (hN : Box w kn [.int .i64 nx]) (hkf : w0.heap.size ≤ kf) (hkn : w0.heap.size ≤ kn) (hne : kn ≠ kf) (hB : Below w0.heap.size w0 w) :
    Calls Tryz.prog 162 #[.agg #[.int .i64 x, .int .i64 y, .int .i64 u, .int .i64 h, .int .i64 s], .pointer (some ⟨ki, 0, none⟩), .pointer (some ⟨kf, 0, none⟩), .pointer (some ⟨kn, 0, none⟩)] w fun e w' => e = .returned (.tuple #[]) ∧ Box w' kn [.int .i64 nx] ∧ Box w' kf [.bool fl] ∧ Spare [kn, kf] w w' ∧ Below w0.heap.size w0 w' := by
  have HC := Lib.hid (fun w => narrows_to (x := x) (y := y) (u := u) (h := h) (s := s) hv hw w)
  have HC2 := Lib.hid (fun w => bottom_to (x := x) (y := y) (u := u) (h := h) (s := s) hw2 w)
  clear hv
  have HI := Lib.hid hI
  have HF := Lib.hid hF
  have HN := Lib.hid hN
  have HB := Lib.hid hB
  clear hI hF hN hB
  go_enter Tryz.func162, Tryz.ntmps162
  go_wp2_with fail
  generalize hW : w.alloc (.cells #[.int .i64 x, .int .i64 y, .int .i64 u, .int .i64 h, .int .i64 s] 150) = W
  have HX := Lib.hid (show Box W w.heap.size [.int .i64 x, .int .i64 y, .int .i64 u, .int .i64 h, .int .i64 s] by rw [← hW]; exact Box.new5 _ _ _ _ _ _ _)
  have hBW : Below w.heap.size w W := by rw [← hW]; go_grown
  have HBW := Lib.hid hBW
  have HIW := Lib.hid (HI.out.below hBW)
  have HFW := Lib.hid (HF.out.below hBW)
  have HNW := Lib.hid (HN.out.below hBW)
  clear hW hBW
  have k0 := OnW.cell (W := W) HX.out.of5.1.1
  have k1 := OnW.cell (W := W) HX.out.of5.1.2.1
  have k2 := OnW.cell (W := W) HX.out.of5.1.2.2.1
  have k3 := OnW.cell (W := W) HX.out.of5.1.2.2.2.1
  have k4 := OnW.cell (W := W) HX.out.of5.1.2.2.2.2
  obtain ⟨j0, j1⟩ := OnW.of2 HIW.out
  have jf := OnW.of1 HFW.out
  have jn := OnW.of1 HNW.out
  refine wp_region_on (by kernel_rfl) (by kernel_rfl) ?_
  repeat (go_big_quiet_step ((first
    | (go_at_call 163; with_reducible exact Calls.on_of (HC.out _))
    | (go_at_call 94; with_reducible exact Calls.on_of (HC2.out _)))))
  refine wpQuiet_nil ?_
  intro w5 hw'
  obtain ⟨⟨w6, hOn⟩, hw''⟩ := hw'
  obtain rfl : w5 = w6 := hw''
  have HB5 := Lib.hid (below_then HBW.out hOn)
  clear k0 k1 k2 k3 k4 j0 j1 jf jn
  go_wp2_with fail
  go_end0
  exact ⟨rfl, HN.out.below HB5.out, HF.out.below HB5.out, Spare.below (Spare.refl _ _) HB5.out, HB.out.trans (HB5.out.mono HB.out.size)⟩
set_option maxHeartbeats 2000000 in
theorem next1_first {x y u h s a b nx : Int} (hv : (leaveF x u s a b != (a, b)) = true) (hw : IntKind.i64.wrap (x + u) = x + u) (hw2 : IntKind.i64.wrap (y + h) = y + h) {w0 w : World} {ki kf kn : Nat}
    (hI : Box w ki [.int .i64 a, .int .i64 b]) (hF : Box w kf [.bool false]) (hN : Box w kn [.int .i64 nx]) (hkf : w0.heap.size ≤ kf) (hkn : w0.heap.size ≤ kn) (hne : kn ≠ kf) (hB : Below w0.heap.size w0 w) :
    Calls Tryz.prog 162 #[.agg #[.int .i64 x, .int .i64 y, .int .i64 u, .int .i64 h, .int .i64 s], .pointer (some ⟨ki, 0, none⟩), .pointer (some ⟨kf, 0, none⟩), .pointer (some ⟨kn, 0, none⟩)] w fun e w' => e = .returned (.tuple #[]) ∧ Box w' kn [.int .i64 (y + h)] ∧ Box w' kf [.bool true] ∧ Spare [kn, kf] w w' ∧ Below w0.heap.size w0 w' := by
  have HC := Lib.hid (fun w => narrows_to (x := x) (y := y) (u := u) (h := h) (s := s) hv hw w)
  have HC2 := Lib.hid (fun w => bottom_to (x := x) (y := y) (u := u) (h := h) (s := s) hw2 w)
  clear hv
  have HI := Lib.hid hI
  have HF := Lib.hid hF
  have HN := Lib.hid hN
  have HB := Lib.hid hB
  clear hI hF hN hB
  go_enter Tryz.func162, Tryz.ntmps162
  go_wp2_with fail
  generalize hW : w.alloc (.cells #[.int .i64 x, .int .i64 y, .int .i64 u, .int .i64 h, .int .i64 s] 150) = W
  have HX := Lib.hid (show Box W w.heap.size [.int .i64 x, .int .i64 y, .int .i64 u, .int .i64 h, .int .i64 s] by rw [← hW]; exact Box.new5 _ _ _ _ _ _ _)
  have hBW : Below w.heap.size w W := by rw [← hW]; go_grown
  have HBW := Lib.hid hBW
  have HIW := Lib.hid (HI.out.below hBW)
  have HFW := Lib.hid (HF.out.below hBW)
  have HNW := Lib.hid (HN.out.below hBW)
  clear hW hBW
  have k0 := OnW.cell (W := W) HX.out.of5.1.1
  have k1 := OnW.cell (W := W) HX.out.of5.1.2.1
  have k2 := OnW.cell (W := W) HX.out.of5.1.2.2.1
  have k3 := OnW.cell (W := W) HX.out.of5.1.2.2.2.1
  have k4 := OnW.cell (W := W) HX.out.of5.1.2.2.2.2
  obtain ⟨j0, j1⟩ := OnW.of2 HIW.out
  have jf := OnW.of1 HFW.out
  have jn := OnW.of1 HNW.out
  refine wp_region_on (by kernel_rfl) (by kernel_rfl) ?_
  repeat (go_big_quiet_step ((first
    | (go_at_call 163; with_reducible exact Calls.on_of (HC.out _))
    | (go_at_call 94; with_reducible exact Calls.on_of (HC2.out _)))))
  refine wpQuiet_nil ?_
  intro w5 hw'
  obtain ⟨⟨w6, hOn⟩, hw''⟩ := hw'
  obtain rfl : w5 = w6 := hw''
  have HB5 := Lib.hid (below_then HBW.out hOn)
  clear k0 k1 k2 k3 k4 j0 j1 jf jn
  obtain ⟨⟨x0, x1, x2, x3, x4⟩, hxs⟩ := (HX.out.below hOn).of5
  clear hOn
  go_wp2_with fail
  refine (HC2.out _).mono ?_
  rintro e w7 ⟨rfl, hb7⟩
  have HB7 := Lib.hid (below_then HB5.out hb7)
  obtain ⟨f0, f1, f2⟩ := (HF.out.below HB7.out).of1
  obtain ⟨n0, n1, n2⟩ := (HN.out.below HB7.out).of1
  clear hb7 x0 x1 x2 x3 x4
  go_wp2_with fail
  go_end0
  refine ⟨rfl, ((HN.out.below HB7.out).set 0 (.int .i64 (y + h)) (by simp)).set_other (fun e => hne e.symm) 0 _, ((HF.out.below HB7.out).set_other hne 0 _).set 0 (.bool true) (by simp), ?_, ?_⟩
  · exact Spare.set (Spare.set (Spare.below (Spare.refl _ _) HB7.out) (by simp)) (by simp)
  · exact ((HB.out.trans (HB7.out.mono HB.out.size)).setCell hkn _).setCell hkf _
set_option maxHeartbeats 2000000 in
theorem next1_less {x y u h s a b nx : Int} (hv : (leaveF x u s a b != (a, b)) = true) (hw : IntKind.i64.wrap (x + u) = x + u) (hw2 : IntKind.i64.wrap (y + h) = y + h) (hl : y + h < nx) {w0 w : World} {ki kf kn : Nat}
    (hI : Box w ki [.int .i64 a, .int .i64 b]) (hF : Box w kf [.bool true]) (hN : Box w kn [.int .i64 nx]) (hkf : w0.heap.size ≤ kf) (hkn : w0.heap.size ≤ kn) (hne : kn ≠ kf) (hB : Below w0.heap.size w0 w) :
    Calls Tryz.prog 162 #[.agg #[.int .i64 x, .int .i64 y, .int .i64 u, .int .i64 h, .int .i64 s], .pointer (some ⟨ki, 0, none⟩), .pointer (some ⟨kf, 0, none⟩), .pointer (some ⟨kn, 0, none⟩)] w fun e w' => e = .returned (.tuple #[]) ∧ Box w' kn [.int .i64 (y + h)] ∧ Box w' kf [.bool true] ∧ Spare [kn, kf] w w' ∧ Below w0.heap.size w0 w' := by
  have HC := Lib.hid (fun w => narrows_to (x := x) (y := y) (u := u) (h := h) (s := s) hv hw w)
  have HC2 := Lib.hid (fun w => bottom_to (x := x) (y := y) (u := u) (h := h) (s := s) hw2 w)
  clear hv
  have HI := Lib.hid hI
  have HF := Lib.hid hF
  have HN := Lib.hid hN
  have HB := Lib.hid hB
  clear hI hF hN hB
  have hld : decide (y + h < nx) = true := decide_eq_true hl
  go_enter Tryz.func162, Tryz.ntmps162
  go_wp2_with fail
  generalize hW : w.alloc (.cells #[.int .i64 x, .int .i64 y, .int .i64 u, .int .i64 h, .int .i64 s] 150) = W
  have HX := Lib.hid (show Box W w.heap.size [.int .i64 x, .int .i64 y, .int .i64 u, .int .i64 h, .int .i64 s] by rw [← hW]; exact Box.new5 _ _ _ _ _ _ _)
  have hBW : Below w.heap.size w W := by rw [← hW]; go_grown
  have HBW := Lib.hid hBW
  have HIW := Lib.hid (HI.out.below hBW)
  have HFW := Lib.hid (HF.out.below hBW)
  have HNW := Lib.hid (HN.out.below hBW)
  clear hW hBW
  have k0 := OnW.cell (W := W) HX.out.of5.1.1
  have k1 := OnW.cell (W := W) HX.out.of5.1.2.1
  have k2 := OnW.cell (W := W) HX.out.of5.1.2.2.1
  have k3 := OnW.cell (W := W) HX.out.of5.1.2.2.2.1
  have k4 := OnW.cell (W := W) HX.out.of5.1.2.2.2.2
  obtain ⟨j0, j1⟩ := OnW.of2 HIW.out
  have jf := OnW.of1 HFW.out
  have jn := OnW.of1 HNW.out
  refine wp_region_on (by kernel_rfl) (by kernel_rfl) ?_
  repeat (go_big_quiet_step ((first
    | (go_at_call 163; with_reducible exact Calls.on_of (HC.out _))
    | (go_at_call 94; with_reducible exact Calls.on_of (HC2.out _)))))
  refine wpQuiet_nil ?_
  intro w5 hw'
  obtain ⟨⟨w6, hOn⟩, hw''⟩ := hw'
  obtain rfl : w5 = w6 := hw''
  have HB5 := Lib.hid (below_then HBW.out hOn)
  clear k0 k1 k2 k3 k4 j0 j1 jf jn
  obtain ⟨⟨x0, x1, x2, x3, x4⟩, hxs⟩ := (HX.out.below hOn).of5
  clear hOn
  go_wp2_with fail
  refine (HC2.out _).mono ?_
  rintro e w7 ⟨rfl, hb7⟩
  have HB7 := Lib.hid (below_then HB5.out hb7)
  obtain ⟨f0, f1, f2⟩ := (HF.out.below HB7.out).of1
  obtain ⟨n0, n1, n2⟩ := (HN.out.below HB7.out).of1
  clear hb7 x0 x1 x2 x3 x4
  go_wp2_with fail
  go_end0
  refine ⟨rfl, ((HN.out.below HB7.out).set 0 (.int .i64 (y + h)) (by simp)).set_other (fun e => hne e.symm) 0 _, ((HF.out.below HB7.out).set_other hne 0 _).set 0 (.bool true) (by simp), ?_, ?_⟩
  · exact Spare.set (Spare.set (Spare.below (Spare.refl _ _) HB7.out) (by simp)) (by simp)
  · exact ((HB.out.trans (HB7.out.mono HB.out.size)).setCell hkn _).setCell hkf _
set_option maxHeartbeats 2000000 in
theorem next1_more {x y u h s a b nx : Int} (hv : (leaveF x u s a b != (a, b)) = true) (hw : IntKind.i64.wrap (x + u) = x + u) (hw2 : IntKind.i64.wrap (y + h) = y + h) (hl : ¬ y + h < nx) {w0 w : World} {ki kf kn : Nat}
    (hI : Box w ki [.int .i64 a, .int .i64 b]) (hF : Box w kf [.bool true]) (hN : Box w kn [.int .i64 nx]) (hkf : w0.heap.size ≤ kf) (hkn : w0.heap.size ≤ kn) (hne : kn ≠ kf) (hB : Below w0.heap.size w0 w) :
    Calls Tryz.prog 162 #[.agg #[.int .i64 x, .int .i64 y, .int .i64 u, .int .i64 h, .int .i64 s], .pointer (some ⟨ki, 0, none⟩), .pointer (some ⟨kf, 0, none⟩), .pointer (some ⟨kn, 0, none⟩)] w fun e w' => e = .returned (.tuple #[]) ∧ Box w' kn [.int .i64 nx] ∧ Box w' kf [.bool true] ∧ Spare [kn, kf] w w' ∧ Below w0.heap.size w0 w' := by
  have HC := Lib.hid (fun w => narrows_to (x := x) (y := y) (u := u) (h := h) (s := s) hv hw w)
  have HC2 := Lib.hid (fun w => bottom_to (x := x) (y := y) (u := u) (h := h) (s := s) hw2 w)
  clear hv
  have HI := Lib.hid hI
  have HF := Lib.hid hF
  have HN := Lib.hid hN
  have HB := Lib.hid hB
  clear hI hF hN hB
  have hld : decide (y + h < nx) = false := decide_eq_false hl
  go_enter Tryz.func162, Tryz.ntmps162
  go_wp2_with fail
  generalize hW : w.alloc (.cells #[.int .i64 x, .int .i64 y, .int .i64 u, .int .i64 h, .int .i64 s] 150) = W
  have HX := Lib.hid (show Box W w.heap.size [.int .i64 x, .int .i64 y, .int .i64 u, .int .i64 h, .int .i64 s] by rw [← hW]; exact Box.new5 _ _ _ _ _ _ _)
  have hBW : Below w.heap.size w W := by rw [← hW]; go_grown
  have HBW := Lib.hid hBW
  have HIW := Lib.hid (HI.out.below hBW)
  have HFW := Lib.hid (HF.out.below hBW)
  have HNW := Lib.hid (HN.out.below hBW)
  clear hW hBW
  have k0 := OnW.cell (W := W) HX.out.of5.1.1
  have k1 := OnW.cell (W := W) HX.out.of5.1.2.1
  have k2 := OnW.cell (W := W) HX.out.of5.1.2.2.1
  have k3 := OnW.cell (W := W) HX.out.of5.1.2.2.2.1
  have k4 := OnW.cell (W := W) HX.out.of5.1.2.2.2.2
  obtain ⟨j0, j1⟩ := OnW.of2 HIW.out
  have jf := OnW.of1 HFW.out
  have jn := OnW.of1 HNW.out
  refine wp_region_on (by kernel_rfl) (by kernel_rfl) ?_
  repeat (go_big_quiet_step ((first
    | (go_at_call 163; with_reducible exact Calls.on_of (HC.out _))
    | (go_at_call 94; with_reducible exact Calls.on_of (HC2.out _)))))
  refine wpQuiet_nil ?_
  intro w5 hw'
  obtain ⟨⟨w6, hOn⟩, hw''⟩ := hw'
  obtain rfl : w5 = w6 := hw''
  have HB5 := Lib.hid (below_then HBW.out hOn)
  clear k0 k1 k2 k3 k4 j0 j1 jf jn
  go_wp2_with fail
  go_end0
  exact ⟨rfl, HN.out.below HB5.out, HF.out.below HB5.out, Spare.below (Spare.refl _ _) HB5.out, HB.out.trans (HB5.out.mono HB.out.size)⟩
theorem next1_to {x y u h s a b nx p : Int} {v fl ok : Bool} (hv : (leaveF x u s a b != (a, b)) = v) (hr : nextV v (y + h) (nx, fl) = (p, ok)) (hw : IntKind.i64.wrap (x + u) = x + u) (hw2 : IntKind.i64.wrap (y + h) = y + h) {w0 w : World} {ki kf kn : Nat}
    (hI : Box w ki [.int .i64 a, .int .i64 b]) (hF : Box w kf [.bool fl]) (hN : Box w kn [.int .i64 nx]) (hkf : w0.heap.size ≤ kf) (hkn : w0.heap.size ≤ kn) (hne : kn ≠ kf) (hB : Below w0.heap.size w0 w) :
    Calls Tryz.prog 162 #[.agg #[.int .i64 x, .int .i64 y, .int .i64 u, .int .i64 h, .int .i64 s], .pointer (some ⟨ki, 0, none⟩), .pointer (some ⟨kf, 0, none⟩), .pointer (some ⟨kn, 0, none⟩)] w fun e w' => e = .returned (.tuple #[]) ∧ Box w' kn [.int .i64 p] ∧ Box w' kf [.bool ok] ∧ Spare [kn, kf] w w' ∧ Below w0.heap.size w0 w' := by
  unfold nextV at hr
  cases v with
  | false =>
    rw [if_neg (by decide)] at hr
    injection hr with e1 e2
    subst e1 e2
    exact next1_no hv hw hw2 hI hF hN hkf hkn hne hB
  | true =>
    rw [if_pos rfl] at hr
    cases fl with
    | false =>
      rw [if_pos (.inl rfl)] at hr
      injection hr with e1 e2
      subst e1 e2
      exact next1_first hv hw hw2 hI hF hN hkf hkn hne hB
    | true =>
      by_cases hl : y + h < nx
      · rw [if_pos (.inr hl)] at hr
        injection hr with e1 e2
        subst e1 e2
        exact next1_less hv hw hw2 hl hI hF hN hkf hkn hne hB
      · rw [if_neg (by simpa using hl)] at hr
        injection hr with e1 e2
        subst e1 e2
        exact next1_more hv hw hw2 hl hI hF hN hkf hkn hne hB
end Go.Proofs.YtdjnaejblgheoaaGreat
