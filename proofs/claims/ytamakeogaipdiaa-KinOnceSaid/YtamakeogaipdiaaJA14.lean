import Derived.Test.YtamakeogaipdiaaJA03
import Derived.Test.YtamakeogaipdiaaJA12
/- The document's answers for package read: a box. -/
namespace Go.Proofs.Ytamakeogaipdiaa
open Go.RowKit
set_option linter.unusedVariables false
set_option linter.unusedSimpArgs false
attribute [-simp] Try.isAgg45 Try.sizeOf45
theorem rnum_to {toks : List Tok} {A : Option Addr} {n c' : Nat} {x lo hi : Int} {i : Nat} {v : Bool} (hx : x = (i : Int)) (hv : nmB toks i lo hi = v) (w : World) (hR : Rows 4 encT w A n toks) (hi_ : i ≤ 10000000) : Calls Try.prog 80 #[.slice A n c', .int .i64 x, .int .i64 lo, .int .i64 hi] w fun e w' => e = .returned (.bool v) ∧ w = w' := by
  subst hv hx; exact rnum_any toks A n c' i lo hi w hR hi_
theorem rsign_at {toks : List Tok} {A : Option Addr} {n c' : Nat} {i : Nat} {x c : Int} {v : Bool} (hx : x = (i : Int)) (hv : sgB toks i c = v) (w : World) (hR : Rows 4 encT w A n toks) (hi : i ≤ 10000000) : Calls Try.prog 57 #[.slice A n c', .int .i64 x, .int .i32 c] w fun e w' => e = .returned (.bool v) ∧ w = w' := by
  subst hv hx; exact rsign_any toks A n c' i c w hR hi
theorem tok_n {w : World} {A : Option Addr} {n : Nat} {toks : List Tok} (hR : Rows 4 encT w A n toks) {i : Nat} {a b : Int} (h : nmB toks i a b = true) : ∃ bl off, A = some ⟨bl, off, none⟩ ∧ bl < w.heap.size ∧ i < n ∧ w.cell? ⟨bl, off + i * 4 + 2, none⟩ = some (.int .i64 (nAt toks i)) := by
  have hlt := nmB_lt h
  have hl := hR.1
  obtain ⟨bl, off, x, y, u, v, hA, hbl, hx, c0, c1, c2, c3⟩ := toks_at hR (show i < n by omega)
  refine ⟨bl, off, hA, hbl, by omega, ?_⟩
  rw [c2]
  unfold nAt
  rw [hx]
set_option maxRecDepth 100000 in
set_option maxHeartbeats 4000000 in
theorem rbox_any (toks : List Tok) (A : Option Addr) (n c' : Nat) (i : Nat) (kind side e : Int) (w : World) (hR : Rows 4 encT w A n toks) (hi : i ≤ 1000000) :
    Calls Try.prog 69 #[.slice A n c', .int .i64 i, .agg (encM (zeroM kind side)).toArray, .int .i32 e] w (GotR w (boxR toks i kind side e)) := by
  have HR := Lib.hid hR
  clear hR
  simp only [encM, zeroM, Sty.none]
  go_enter Try.func69, Try.ntmps69
  go_wp2_with fail
  generalize hW : (w.alloc _).alloc (.cells #[.slice none 0 0, .int .i64 0, .int .i64 0] 72) = W
  have hX : Box W w.heap.size [.int .i64 kind, .int .i64 1, .int .i64 0, .int .i64 0, .int .i64 0, .int .i64 0, .int .i64 0, .int .i64 0, .int .i64 0, .int .i64 0, .int .i64 0, .int .i64 0, .int .i64 0, .int .i64 0, .int .i64 0, .int .i64 0, .slice none 0 0, .int .i64 side, .int .i64 0, .int .i64 0] := by rw [← hW]; exact (box_new _ _ _ _ rfl _ rfl).alloc _
  have hG : Box W (w.heap.size + 1) [.slice none 0 0, .int .i64 0, .int .i64 0] := by rw [← hW]; exact box_new _ _ _ _ (by simp) _ rfl
  have HB := Lib.hid (show Below w.heap.size w W by rw [← hW]; go_grown)
  have HR2 := Lib.hid (HR.out.below HB.out)
  clear hW
  have HX := Lib.hid hX
  have HG := Lib.hid hG
  clear hX
  go_loopw [9] (fun v wr => ∃ k : Nat, k ≤ 2 ∧ v = .int .i64 k ∧ (∀ j, j < k → nmB toks (i + j) 1 maxN = true) ∧ wr = W) (fun v _ => 2 - (intOf v).toNat)
  case atStart => exact ⟨0, by omega, rfl, fun j hj => by omega, rfl⟩
  case round =>
    obtain ⟨k, hk, rfl, hno, rfl⟩ := hrel
    have HN := Lib.hid hno
    clear hno
    by_cases hlt : k < 2
    · rcases hs : nmB toks (i + k) 1 maxN with _ | _
      · have HS := Lib.hid hs
        have HV := Lib.hid (show boxR toks i kind side e = .bad (i + k) by
          unfold boxR
          rcases (show k = 0 ∨ k = 1 by omega) with rfl | rfl
          · exact if_pos hs
          · have h0 : nmB toks i 1 maxN = true := HN.out 0 (by omega)
            rw [if_neg (by rw [h0]; simp), if_pos hs])
        clear hs
        obtain ⟨⟨g0, g1, g2⟩, ⟨f0, f1, f2⟩, g3⟩ := box3_of hG
        go_wp2_with (first | (go_at_call 82; refine (rmost_any _).mono ?_; rintro e w' ⟨rfl, rfl⟩) | (go_at_call 80; refine (rnum_to (i := i + k) (by omega) HS.out _ HR2.out (by omega)).mono ?_; rintro e w' ⟨rfl, rfl⟩))
        refine bodyPost_ret (v := gotV none 0 0 ((i + k : Nat) : Int) 1) (by simp [results, Try.results69, go_sem, g0, g1, g2, gotV]) rfl ?_
        rw [HV.out]
        exact ⟨rfl, Below.setCell (Below.setCell (Below.setCell HB.out (by go_size) _) (by go_size) _) (by go_size) _⟩
      · have HS := Lib.hid hs
        clear hs
        clear hG
        go_wp2_with (first | (go_at_call 82; refine (rmost_any _).mono ?_; rintro e w' ⟨rfl, rfl⟩) | (go_at_call 80; refine (rnum_to (i := i + k) (by omega) HS.out _ HR2.out (by omega)).mono ?_; rintro e w' ⟨rfl, rfl⟩))
        go_roundw
        case rel => exact ⟨k + 1, by omega, by go_num, fun j hj => by
          by_cases e : j = k
          · subst e; exact HS.out
          · exact HN.out j (by omega), by first | rfl | trivial⟩
        case measure => simp [intOf]; omega
    · obtain rfl : k = 2 := by omega
      have h0 : nmB toks i 1 maxN = true := HN.out 0 (by omega)
      have h1 : nmB toks (i + 1) 1 maxN = true := HN.out 1 (by omega)
      rcases hs : sgB toks (i + 2) e with _ | _
      · have HS := Lib.hid hs
        have HV := Lib.hid (show boxR toks i kind side e = .bad (i + 2) by unfold boxR; rw [if_neg (by rw [h0]; simp), if_neg (by rw [h1]; simp), if_pos hs])
        clear hs h0 h1
        obtain ⟨⟨g0, g1, g2⟩, ⟨f0, f1, f2⟩, g3⟩ := box3_of hG
        go_wp2_with (go_at_call 57; refine (rsign_at (i := i + 2) (by omega) HS.out _ HR2.out (by omega)).mono ?_; rintro e w' ⟨rfl, rfl⟩)
        refine bodyPost_ret (v := gotV none 0 0 ((i + 2 : Nat) : Int) 1) (by simp [results, Try.results69, go_sem, g0, g1, g2, gotV]) rfl ?_
        rw [HV.out]
        exact ⟨rfl, Below.setCell (Below.setCell (Below.setCell HB.out (by go_size) _) (by go_size) _) (by go_size) _⟩
      · have HS := Lib.hid hs
        have HV := Lib.hid (show boxR toks i kind side e = .ok [box_ kind side (nAt toks i) (nAt toks (i + 1))] (i + 3) by unfold boxR; rw [if_neg (by rw [h0]; simp), if_neg (by rw [h1]; simp), if_neg (by rw [hs]; simp)])
        obtain ⟨bl, off, rfl, hbl, hin, _⟩ := tok_n HR.out h0
        obtain ⟨_, _, hA, _, _, t0⟩ := tok_n HR2.out h0
        cases hA
        obtain ⟨_, _, hA, _, hin1, t1⟩ := tok_n HR2.out h1
        cases hA
        obtain ⟨u, hu⟩ : ∃ u, nAt toks i = u := ⟨_, rfl⟩
        obtain ⟨v, hv⟩ : ∃ v, nAt toks (i + 1) = v := ⟨_, rfl⟩
        rw [hu] at t0
        rw [hv] at t1
        have HU := Lib.hid hu
        have HVv := Lib.hid hv
        have i1 : (i : Int) < (n : Int) := by omega
        have i2 : (i : Int) + 1 < (n : Int) := by omega
        clear hs h0 h1 hu hv hG
        have hX := HX.out
        have x18 := hX.2.2 18 _ rfl
        have x19 := hX.2.2 19 _ rfl
        have y18 := hX.2.1 18
        have y19 := hX.2.1 19
        have hX2 : Box ((wr.setCell ⟨w.heap.size, 18, none⟩ (.int .i64 u)).setCell ⟨w.heap.size, 19, none⟩ (.int .i64 v)) w.heap.size [.int .i64 kind, .int .i64 1, .int .i64 0, .int .i64 0, .int .i64 0, .int .i64 0, .int .i64 0, .int .i64 0, .int .i64 0, .int .i64 0, .int .i64 0, .int .i64 0, .int .i64 0, .int .i64 0, .int .i64 0, .int .i64 0, .slice none 0 0, .int .i64 side, .int .i64 u, .int .i64 v] := (hX.set 18 (.int .i64 u) (by simp)).set 19 (.int .i64 v) (by simp)
        have HLD := Lib.hid (box_load (P := Try.prog) (k := 20) hX2 rfl #[.int .i64 kind, .int .i64 1, .int .i64 0, .int .i64 0, .int .i64 0, .int .i64 0, .int .i64 0, .int .i64 0, .int .i64 0, .int .i64 0, .int .i64 0, .int .i64 0, .int .i64 0, .int .i64 0, .int .i64 0, .int .i64 0, .slice none 0 0, .int .i64 side, .int .i64 u, .int .i64 v] rfl)
        clear hX2 hX
        obtain ⟨⟨g0, g1, g2⟩, ⟨f0, f1, f2⟩, g3⟩ := box3_of HG.out
        have hne : bl ≠ w.heap.size := by omega
        go_wp2_with (go_at_call 57; refine (rsign_at (i := i + 2) (by omega) HS.out _ HR2.out (by omega)).mono ?_; rintro e w' ⟨rfl, rfl⟩)
        simp only [Try.isAgg45, Try.sizeOf45, Result.andThen, ↓reduceIte, HLD.out]
        rw [Oper.upon_value]
        clear HLD x18 x19 y18 y19
        have hsz := Try.sizeOf45
        go_wp2_with fail
        have hS1 := (((((HG.out.set_other (m := w.heap.size) (by omega) 18 (.int .i64 u)).set_other (m := w.heap.size) (by omega) 19 (.int .i64 v)).set 0 (.slice (some ⟨wr.heap.size, 0, none⟩) 1 1) (by simp)).set 1 (.int .i64 ((i : Int) + 3)) (by simp)).set 2 (.int .i64 0) (by simp))
        obtain ⟨S, hS⟩ : ∃ S, ((((wr.setCell ⟨w.heap.size, 18, none⟩ (.int .i64 u)).setCell ⟨w.heap.size, 19, none⟩ (.int .i64 v)).setCell ⟨w.heap.size + 1, 0, none⟩ (.slice (some ⟨wr.heap.size, 0, none⟩) 1 1)).setCell ⟨w.heap.size + 1, 1, none⟩ (.int .i64 ((i : Int) + 3))).setCell ⟨w.heap.size + 1, 2, none⟩ (.int .i64 0) = S := ⟨_, rfl⟩
        have hSs : S.heap.size = wr.heap.size := by rw [← hS]; simp
        have hSB : Below w.heap.size w S := by
          rw [← hS]
          exact Below.setCell (Below.setCell (Below.setCell (Below.setCell (Below.setCell HB.out (by go_size) _) (by go_size) _) (by go_size) _) (by go_size) _) (by go_size) _
        rw [hS] at hS1 ⊢
        clear hS
        have hbx : Box (S.alloc (.cells #[.int .i64 kind, .int .i64 1, .int .i64 0, .int .i64 0, .int .i64 0, .int .i64 0, .int .i64 0, .int .i64 0, .int .i64 0, .int .i64 0, .int .i64 0, .int .i64 0, .int .i64 0, .int .i64 0, .int .i64 0, .int .i64 0, .slice none 0 0, .int .i64 side, .int .i64 u, .int .i64 v] 45)) wr.heap.size (([⟨kind, 1, .none, 0, 0, none, 0, 0, side, u, v⟩] : List NdM).flatMap encM) := box_new S _ _ _ hSs.symm _ rfl
        have hS2 := hS1.alloc (.cells #[.int .i64 kind, .int .i64 1, .int .i64 0, .int .i64 0, .int .i64 0, .int .i64 0, .int .i64 0, .int .i64 0, .int .i64 0, .int .i64 0, .int .i64 0, .int .i64 0, .int .i64 0, .int .i64 0, .int .i64 0, .int .i64 0, .slice none 0 0, .int .i64 side, .int .i64 u, .int .i64 v] 45)
        obtain ⟨⟨g0, g1, g2⟩, _, _⟩ := box3_of hS2
        refine bodyPost_ret (v := gotV (some ⟨wr.heap.size, 0, none⟩) 1 1 ((i : Int) + 3) 0) (by simp [results, Try.results69, go_sem, g0, g1, g2, gotV]) rfl ?_
        rw [HV.out]
        refine ⟨some ⟨wr.heap.size, 0, none⟩, 1, 1, rfl, ⟨_, rows_box encM_len hbx (by simp), Holds2.one ⟨⟨rfl, rfl, rfl, rfl, rfl, rfl, HU.out, HVv.out⟩, owns_nil _ _ _ _⟩, Far.at_ (by have := HB.out.size; omega)⟩, hSB.alloc (by have := HB.out.size; omega) _⟩
end Go.Proofs.Ytamakeogaipdiaa
