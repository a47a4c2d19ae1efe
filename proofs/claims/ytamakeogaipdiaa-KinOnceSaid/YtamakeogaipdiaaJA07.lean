import Derived.Test.YtamakeogaipdiaaJA03
import Derived.Deep.QuietTactic
import Derived.BigQuiet
/- The document's Same: nodes compared. (Written by program: tools/drafts/genone.py.) -/
namespace Go.Proofs.Ytamakeogaipdiaa
open Go.RowKit
set_option linter.unusedVariables false
set_option linter.unusedSimpArgs false
set_option maxHeartbeats 4000000 in
set_option maxRecDepth 100000 in
theorem rndone_any (m1 m2 : NdM) (x1 x2 : Nd) (w : World) (h1 : Shows w m1 x1) (h2 : Shows w m2 x2) : Calls Try.prog 35 #[.agg (encM m1).toArray, .agg (encM m2).toArray] w fun e w' => e = .returned (.bool (ndB x1 x2)) ∧ Below w.heap.size w w' := by
  rw [ndB_M h1 h2]
  have H1 := Lib.hid h1
  have H2 := Lib.hid h2
  have l1 := h1.2.1
  have l2 := h2.2.1
  have n1 := h1.2.2.1
  have n2 := h2.2.2.1
  clear h1 h2
  simp only [encM]
  go_enter Try.func35, Try.ntmps35
  go_wp2_with fail
  all_goals first
    | (go_ret
       refine ⟨ret_bool ?_, by go_grown⟩
       first
         | (simp_all [styB]; done)
         | (have hw : (x1.words == x2.words) = false := by
              rw [beq_eq_false_iff_ne]
              intro e
              rw [e, l2] at l1
              simp_all
            simp_all))
    | skip
  generalize hW : World.alloc (World.alloc _ _) _ = W
  have hnn : m1.n = m2.n := by
    have h : (((m1.n : Nat) : Int) != ((m2.n : Nat) : Int)) = false := by assumption
    have h2 : (m1.n : Int) = (m2.n : Int) := by simpa using h
    omega
  have HS := Lib.hid (show styB m1.sty m2.sty = true by simp_all [styB])
  have x16 : W.cell? ⟨w.heap.size, 16, none⟩ = some (.slice m1.A m1.n m1.c) := by
    rw [← hW]
    exact ((box_new w _ _ w.heap.size rfl _ (Array.toArray_toList).symm).alloc _).2.2 16 _ rfl
  have y16 : W.cell? ⟨w.heap.size + 1, 16, none⟩ = some (.slice m2.A m2.n m2.c) := by
    rw [← hW]
    exact (box_new _ _ _ (w.heap.size + 1) (by simp) _ (Array.toArray_toList).symm).2.2 16 _ rfl
  have HB := Lib.hid (show Below w.heap.size w W by rw [← hW]; go_grown)
  have HI1 := Lib.hid (H1.out.2.below HB.out rfl)
  have HI2 := Lib.hid (H2.out.2.below HB.out rfl)
  have HBD := Lib.hid (show Below w.heap.size w W from HB.out)
  obtain ⟨k1, s1, t1, l3, p3, A1, n', c1, i1, q1, r1⟩ := m1
  obtain ⟨k2, s2, t2, l4, p4, A2, n, c2, i2, q2, r2⟩ := m2
  simp only at hnn x16 y16 HI1 HI2 l1 l2 n1 n2
  subst hnn
  clear hW H1 H2 HB
  simp only [bne_self_eq_false]
  go_loopw [5] (fun i wr => ∃ k d : Nat, k ≤ n' ∧ i = .int .i64 k ∧ (∀ j, j < k → x1.words[j]? = x2.words[j]?) ∧ wr = W.drewN d) (fun i _ => n' - (intOf i).toNat)
  case atStart => exact ⟨0, 0, by omega, rfl, fun j hj => by omega, rfl⟩
  case round =>
    obtain ⟨k, d, hk, rfl, hall, rfl⟩ := hrel
    have HA := Lib.hid hall
    clear hall
    by_cases hlt : k < n'
    · obtain ⟨b1, o1, rfl, hc1⟩ := HI1.out.at_ hlt
      obtain ⟨b2, o2, rfl, hc2⟩ := HI2.out.at_ hlt
      have e1 : x1.words[k]? = some (x1.words[k]?.getD 0) := by rw [List.getElem?_eq_getElem (by omega)]; rfl
      have e2 : x2.words[k]? = some (x2.words[k]?.getD 0) := by rw [List.getElem?_eq_getElem (by omega)]; rfl
      have E1 := Lib.hid e1
      have E2 := Lib.hid e2
      clear e1 e2
      generalize x1.words[k]?.getD 0 = u at hc1 E1
      generalize x2.words[k]?.getD 0 = v at hc2 E2
      by_cases huv : u = v
      · subst huv
        go_wp2_with fail
        go_quiet (fail)
        go_wp2_with fail
        go_roundw
        case rel => exact ⟨k + 1, _, by omega, by go_num, fun j hj => by
          by_cases e : j = k
          · subst e; rw [E1.out, E2.out]
          · exact HA.out j (by omega), rfl⟩
        case measure => simp [intOf]; omega
      · have h3 : (u != v) = true := by simpa using huv
        have HW := Lib.hid (words_ne E1.out E2.out huv)
        go_wp2_with fail
        go_quiet (fail)
        go_wp2_with fail
        go_ret
        exact ⟨ret_bool (by rw [HS.out, HW.out]; rfl), below_drewN HBD.out _⟩
    · have HW := Lib.hid (words_eq (a := x1.words) (b := x2.words) (by omega) (fun j hj => HA.out j (by omega)))
      go_wp2_with fail
      go_ret
      exact ⟨ret_bool (by rw [HS.out, HW.out]; rfl), below_drewN HBD.out d⟩
end Go.Proofs.Ytamakeogaipdiaa
