import Derived.Test.YtkbpiekmphcdnaaRectSlices2
import Derived.Test.YtkbpiekmphcdnaaRectHull2
/- Rows of rectangles that are the same; numbers that are near; the chapter's examples hold, in any world. -/
namespace Go.Proofs.Ytkbpiekmphcdnaa
open Go.RowKit
set_option linter.unusedVariables false
set_option linter.unusedSimpArgs false
theorem rects_at {w : World} {A : Option Addr} {n : Nat} {zs : List Rc} (h : Rows 4 encR w A n zs) {i : Nat} (hi : i < n) :
    ∃ b off x y u v, A = some ⟨b, off, none⟩ ∧ b < w.heap.size ∧ zs[i]? = some ⟨x, y, u, v⟩ ∧ w.cell? ⟨b, off + i * 4, none⟩ = some (.int .i64 x) ∧ w.cell? ⟨b, off + i * 4 + 1, none⟩ = some (.int .i64 y) ∧ w.cell? ⟨b, off + i * 4 + 2, none⟩ = some (.int .i64 u) ∧ w.cell? ⟨b, off + i * 4 + 3, none⟩ = some (.int .i64 v) := by
  obtain ⟨b, off, ⟨x, y, u, v⟩, h1, h2, h3, h4⟩ := h.at_ hi
  exact ⟨b, off, x, y, u, v, h1, h2, h3, h4 0 _ rfl, h4 1 _ rfl, h4 2 _ rfl, h4 3 _ rfl⟩
theorem rsame_any (A : Option Addr) (n c : Nat) (B : Option Addr) (m d : Nat) (zs : List Rc) (w : World) (h1 : Rows 4 encR w A n zs) (h2 : Rows 4 encR w B m zs) :
    Calls Try.prog 29 #[.slice A n c, .slice B m d] w fun e w' => e = .returned (.bool true) ∧ Below w.heap.size w w' := by
  have hn := h1.2.1
  obtain rfl : n = m := h1.1.symm.trans h2.1
  have H1 := Lib.hid h1
  have H2 := Lib.hid h2
  clear h1 h2
  go_enter Try.func29, Try.ntmps29
  go_wp2_with fail
  go_loopw [5] (fun i wr => ∃ k m : Nat, k ≤ n ∧ i = .int .i64 k ∧ wr = w.drewN m) (fun i _ => n - (intOf i).toNat)
  case atStart => exact ⟨0, 0, by omega, rfl, rfl⟩
  case round =>
    obtain ⟨k, m, hk, rfl, rfl⟩ := hrel
    by_cases hlt : k < n
    · obtain ⟨b, off, x, y, u, v, rfl, hbl, hx, c0, c1, c2, c3⟩ := rects_at H1.out hlt
      obtain ⟨b', off', x', y', u', v', rfl, hbl', hx', c0', c1', c2', c3'⟩ := rects_at H2.out hlt
      rw [hx] at hx'
      injection hx' with hx'
      injection hx' with e1 e2 e3 e4
      subst e1 e2 e3 e4
      have HX := Lib.hid hx
      clear hx
      go_wp2_with fail
      go_quiet (fail)
      go_wp2_with fail
      go_roundw
      case rel => exact ⟨k + 1, _, by omega, by go_num, rfl⟩
      case measure => simp [intOf]; omega
    · go_wp2_with fail
      go_ret
      exact ⟨rfl, below_drewN (Below.refl _ _) m⟩
theorem rnear_yes {x y w h : Int} (hr : NearR ⟨x, y, w, h⟩) (W : World) : Calls Try.prog 25 #[.agg #[.int .i64 x, .int .i64 y, .int .i64 w, .int .i64 h]] W fun e W' => e = .returned (.bool true) ∧ Below W.heap.size W W' := by
  obtain ⟨⟨n1, n2⟩, ⟨n3, n4⟩, ⟨n5, n6⟩, n7, n8⟩ := hr
  simp only at n1 n2 n3 n4 n5 n6 n7 n8
  go_enter Try.func25, Try.ntmps25
  go_wp2
  go_ret
  exact ⟨ret_bool (by first | rfl | (simp <;> omega)), by go_grown⟩
set_option maxHeartbeats 1000000 in
theorem rnear_no {x y w h : Int} (hr : ¬ NearR ⟨x, y, w, h⟩) (W : World) : Calls Try.prog 25 #[.agg #[.int .i64 x, .int .i64 y, .int .i64 w, .int .i64 h]] W fun e W' => e = .returned (.bool false) ∧ Below W.heap.size W W' := by
  unfold NearR Near60 at hr
  simp only at hr
  rcases (show x < -1152921504606846976 ∨ (-1152921504606846976 ≤ x ∧ 1152921504606846976 < x) ∨ ((-1152921504606846976 ≤ x ∧ x ≤ 1152921504606846976) ∧ y < -1152921504606846976) ∨ ((-1152921504606846976 ≤ x ∧ x ≤ 1152921504606846976) ∧ -1152921504606846976 ≤ y ∧ 1152921504606846976 < y) ∨
    ((-1152921504606846976 ≤ x ∧ x ≤ 1152921504606846976) ∧ (-1152921504606846976 ≤ y ∧ y ≤ 1152921504606846976) ∧ w < -1152921504606846976) ∨ ((-1152921504606846976 ≤ x ∧ x ≤ 1152921504606846976) ∧ (-1152921504606846976 ≤ y ∧ y ≤ 1152921504606846976) ∧ -1152921504606846976 ≤ w ∧ 1152921504606846976 < w) ∨
    ((-1152921504606846976 ≤ x ∧ x ≤ 1152921504606846976) ∧ (-1152921504606846976 ≤ y ∧ y ≤ 1152921504606846976) ∧ (-1152921504606846976 ≤ w ∧ w ≤ 1152921504606846976) ∧ h < -1152921504606846976) ∨ ((-1152921504606846976 ≤ x ∧ x ≤ 1152921504606846976) ∧ (-1152921504606846976 ≤ y ∧ y ≤ 1152921504606846976) ∧ (-1152921504606846976 ≤ w ∧ w ≤ 1152921504606846976) ∧ -1152921504606846976 ≤ h ∧ 1152921504606846976 < h) by omega) with
    h1 | ⟨h1, h2⟩ | ⟨⟨h1, h2⟩, h3⟩ | ⟨⟨h1, h2⟩, h3, h4⟩ | ⟨⟨h1, h2⟩, ⟨h3, h4⟩, h5⟩ | ⟨⟨h1, h2⟩, ⟨h3, h4⟩, h5, h6⟩ | ⟨⟨h1, h2⟩, ⟨h3, h4⟩, ⟨h5, h6⟩, h7⟩ | ⟨⟨h1, h2⟩, ⟨h3, h4⟩, ⟨h5, h6⟩, h7, h8⟩
  all_goals
    clear hr
    go_enter Try.func25, Try.ntmps25
    go_wp2
    go_ret
    exact ⟨ret_bool (by first | rfl | (simp <;> omega)), by go_grown⟩
theorem rects_lit (w : World) (zs : List Rc) (m : Nat) (t : TypeId) (n : Nat) (hn : n = w.heap.size) (cs : Array Value) (hcs : cs = (zs.flatMap encR).toArray) (hm : zs.length = m) (hm2 : m ≤ 1000) : Rows 4 encR (w.alloc (.cells cs t)) (some ⟨n, 0, none⟩) m zs := by
  subst hn hcs hm
  refine ⟨rfl, by omega, fun _ => ⟨_, _, rfl, by simp, fun i x hx j v hv => ?_⟩⟩
  rw [Nat.zero_add]
  exact (Box.new w (zs.flatMap encR) t).2.2 _ _ (flat_get encR_len zs i x j v hx hv)
set_option maxRecDepth 100000 in
set_option maxHeartbeats 2000000 in
theorem rawake_any (w : World) : Calls Try.prog 26 #[] w fun e w' => e = .returned (.bool true) ∧ Below w.heap.size w w' := by
  have C1 : Hid (ofR (2, 5) (0, 4) = ⟨2, 0, 3, 4⟩) := by show ofR (2, 5) (0, 4) = ⟨2, 0, 3, 4⟩; decide
  have C2 : Hid (ofR (2, 2) (0, 4) = ⟨0, 0, 0, 0⟩) := by show ofR (2, 2) (0, 4) = ⟨0, 0, 0, 0⟩; decide
  have C3 : Hid (meetR ⟨0, 0, 4, 4⟩ ⟨2, 3, 9, 9⟩ = ⟨2, 3, 2, 1⟩) := by show meetR ⟨0, 0, 4, 4⟩ ⟨2, 3, 9, 9⟩ = ⟨2, 3, 2, 1⟩; decide
  have C4 : Hid (meetR ⟨0, 0, 2, 2⟩ ⟨2, 0, 2, 2⟩ = ⟨0, 0, 0, 0⟩) := by show meetR ⟨0, 0, 2, 2⟩ ⟨2, 0, 2, 2⟩ = ⟨0, 0, 0, 0⟩; decide
  have C5 : Hid (hullR [⟨0, 0, 1, 1⟩, ⟨5, 5, 0, 9⟩, ⟨3, 2, 1, 1⟩] = ⟨0, 0, 4, 3⟩) := by show hullR [⟨0, 0, 1, 1⟩, ⟨5, 5, 0, 9⟩, ⟨3, 2, 1, 1⟩] = ⟨0, 0, 4, 3⟩; decide
  have C6 : Hid (slicesR ⟨1, 1, 2, 5⟩ 2 = [⟨1, 1, 2, 2⟩, ⟨1, 3, 2, 2⟩, ⟨1, 5, 2, 1⟩]) := by show slicesR ⟨1, 1, 2, 5⟩ 2 = [⟨1, 1, 2, 2⟩, ⟨1, 3, 2, 2⟩, ⟨1, 5, 2, 1⟩]; decide
  have C7 : Hid (slicesR ⟨1, 1, 2, 5⟩ 0 = []) := by show slicesR ⟨1, 1, 2, 5⟩ 0 = []; decide
  have N1 : Hid (NearR ⟨1, 1, 2, 5⟩) := by show NearR ⟨1, 1, 2, 5⟩; decide
  have N2 : Hid (∀ z ∈ [(⟨0, 0, 1, 1⟩ : Rc), ⟨5, 5, 0, 9⟩, ⟨3, 2, 1, 1⟩], NearR z) := by show ∀ z ∈ [(⟨0, 0, 1, 1⟩ : Rc), ⟨5, 5, 0, 9⟩, ⟨3, 2, 1, 1⟩], NearR z; decide
  have F1 : Hid (Fit ⟨0, 0, 4, 4⟩ ∧ Fit ⟨2, 3, 9, 9⟩) := by show Fit ⟨0, 0, 4, 4⟩ ∧ Fit ⟨2, 3, 9, 9⟩; unfold Fit; decide
  have F2 : Hid (Fit ⟨0, 0, 2, 2⟩ ∧ Fit ⟨2, 0, 2, 2⟩) := by show Fit ⟨0, 0, 2, 2⟩ ∧ Fit ⟨2, 0, 2, 2⟩; unfold Fit; decide
  have M0 : Hid ((Near 0 ∧ Near 2) ∧ Near 4 ∧ Near 5) := by show (Near 0 ∧ Near 2) ∧ Near 4 ∧ Near 5; decide
  have hB := Below.refl w.heap.size w
  go_enter Try.func26, Try.ntmps26
  go_wp2_with (first
    | (go_at_call 38; refine (lawof_any _ _ _ _ _).mono ?_; rintro e w1 ⟨rfl, hb⟩; replace hB := below_then (show Below w.heap.size w _ by go_grown) hb; clear hb; have hBs := hB.size)
    | (go_at_call 37; with_reducible refine (rectof_to M0.out.1.2 M0.out.2.2 M0.out.1.1 M0.out.2.1 C1.out _).mono ?_; rintro e w1 ⟨rfl, hb⟩; replace hB := below_then (show Below w.heap.size w _ by go_grown) hb; clear hb; have hBs := hB.size)
    | (go_at_call 37; with_reducible refine (rectof_to M0.out.1.2 M0.out.1.2 M0.out.1.1 M0.out.2.1 C2.out _).mono ?_; rintro e w1 ⟨rfl, hb⟩; replace hB := below_then (show Below w.heap.size w _ by go_grown) hb; clear hb; have hBs := hB.size)
    | (go_at_call 39; with_reducible refine (rectmeet_to F1.out.1 F1.out.2 C3.out _).mono ?_; rintro e w1 ⟨rfl, hb⟩; replace hB := below_then (show Below w.heap.size w _ by go_grown) hb; clear hb; have hBs := hB.size)
    | (go_at_call 39; with_reducible refine (rectmeet_to F2.out.1 F2.out.2 C4.out _).mono ?_; rintro e w1 ⟨rfl, hb⟩; replace hB := below_then (show Below w.heap.size w _ by go_grown) hb; clear hb; have hBs := hB.size)
    | (go_at_call 27; refine (recthull_any _ _ _ [⟨0, 0, 1, 1⟩, ⟨5, 5, 0, 9⟩, ⟨3, 2, 1, 1⟩] _ (rects_lit _ _ _ _ _ (by simp) _ (by simp [encR]) rfl (by decide)) N2.out _ _ _ _ C5.out).mono ?_; rintro e w1 ⟨rfl, hb⟩; replace hB := below_then (show Below w.heap.size w _ by go_grown) hb; clear hb; have hBs := hB.size))
  refine (rectslices_any _ _ _ _ _ N1.out (by decide) _).mono ?_
  rintro e w1 ⟨A1, n1, k1, rfl, hR, hb⟩
  replace hB := below_then hB hb
  have hBs := hB.size
  rw [C6.out] at hR
  obtain rfl : n1 = 3 := hR.len.symm
  clear hb
  go_wp2_with fail
  refine (lawof_any _ _ _ _ _).mono ?_
  rintro e w2 ⟨rfl, hb⟩
  replace hR := hR.below hb
  replace hB := below_then hB hb
  have hBs := hB.size
  clear hb
  go_wp2_with fail
  refine (lawof_any _ _ _ _ _).mono ?_
  rintro e w3 ⟨rfl, hb⟩
  replace hR := hR.below hb
  replace hB := below_then hB hb
  have hBs := hB.size
  clear hb
  go_wp2_with fail
  refine (lawof_any _ _ _ _ _).mono ?_
  rintro e w4 ⟨rfl, hb⟩
  replace hR := hR.below hb
  replace hB := below_then hB hb
  have hBs := hB.size
  clear hb
  go_wp2_with fail
  refine (rsame_any _ _ _ _ _ _ _ _ (hR.below (by go_grown)) (rects_lit _ _ _ _ _ (by simp) _ (by simp [encR]) rfl (by decide))).mono ?_
  rintro e w5 ⟨rfl, hb⟩
  replace hB := below_then (show Below w.heap.size w _ by go_grown) hb
  have hBs := hB.size
  clear hb hR
  go_wp2_with fail
  refine (lawof_any _ _ _ _ _).mono ?_
  rintro e w6 ⟨rfl, hb⟩
  replace hB := below_then hB hb
  have hBs := hB.size
  clear hb
  go_wp2_with fail
  refine (rectslices_any _ _ _ _ _ N1.out (by decide) _).mono ?_
  rintro e w7 ⟨A1, n1, k1, rfl, hR, hb⟩
  replace hB := below_then hB hb
  have hBs := hB.size
  rw [C7.out] at hR
  obtain rfl : n1 = 0 := hR.len.symm
  clear hb
  go_wp2_with fail
  go_ret
  exact ⟨rfl, hB⟩
end Go.Proofs.Ytkbpiekmphcdnaa
