import Derived.Test.YtechccoongilcaaDoorJD703
/- The program's package read: a sign taken, a number taken. -/
namespace Go.Proofs.YtechccoongilcaaDoor
open Go.RowKit
set_option linter.unusedVariables false
set_option linter.unusedSimpArgs false
theorem more_to {toks : List Tok} {size : Int} {g : Nat} {w : World} {i : Nat} {wr v : Bool} {row opn : Value} {s : Sty} {mp : Value} (hv : (!wr && decide (i < toks.length)) = v) (h : Rd toks size g w i wr row opn s mp) :
    Calls Tryd.prog 32 #[.pointer (some ⟨g, 0, none⟩)] w fun e w' => e = .returned (.bool v) ∧ w = w' := by subst hv; exact tmore_any h
/-- a token behind is taken: what stands in the reader's block then. -/
theorem Rd.next {toks : List Tok} {size : Int} {g : Nat} {w : World} {i m c : Nat} {b off : Nat} {wr : Bool} {row opn : Value} {s : Sty} {mp : Value}
    (hR : Rows 4 encT w (some ⟨b, off + 4, none⟩) (m - 1) (toks.drop (i + 1))) (hm : 0 < m) (hc : m ≤ c) (ha : b < g) (hi : i < toks.length) (hB : Blk w g 47 (rcells (.slice (some ⟨b, off, none⟩) m c) size wr row opn s mp))
    (A : Option Addr) (hA : A = if c = 1 then some ⟨b, off, none⟩ else some ⟨b, off + 4, none⟩) : Rd toks size g (w.setCell ⟨g, 0, none⟩ (.slice A (m - 1) (c - 1))) (i + 1) wr row opn s mp := by
  have hb := hB.set 0 (.slice A (m - 1) (c - 1))
  have hap : Apart g A := by
    intro p hp
    rw [hA] at hp
    split at hp <;> (injection hp with hp; subst hp; exact ha)
  refine ⟨A, m - 1, c - 1, ?_, hap, by omega, by omega, hb⟩
  by_cases h1 : c = 1
  · have h0 : m - 1 = 0 := by omega
    rw [h0] at hR ⊢
    exact ⟨hR.1, hR.2.1, fun h => absurd h (by decide)⟩
  · rw [if_neg h1] at hA
    subst hA
    exact hR.bar ((Bar.refl _ _).set _ _) hap
theorem psign_to {toks : List Tok} {size : Int} {g : Nat} {w : World} {i : Nat} {wr v : Bool} {row opn : Value} {s : Sty} {mp : Value} {c : Int} (hv : (!wr && sgB toks i c) = v) (h : Rd toks size g w i wr row opn s mp) :
    Calls Tryd.prog 33 #[.pointer (some ⟨g, 0, none⟩), .int .i32 c] w fun e w' => e = .returned (.bool v) ∧ Bar g w w' ∧ w'.heap.size = w.heap.size ∧ Rd toks size g w' (i + v.toNat) wr row opn s mp := by
  have HD := Lib.hid h
  obtain ⟨A, m, c', h1, h2, h3, h4, h5⟩ := h
  have hm := h1.1
  rw [List.length_drop] at hm
  have hm2 := h1.2.1
  cases wr with
  | true =>
    have HV := Lib.hid (show v = false from hv.symm)
    have HM := Lib.hid (more_to (v := false) (by simp) HD.out)
    clear h1 h5 hv hm
    go_enter Tryd.func33, Tryd.ntmps33
    go_wp2_with (go_at_call 32; refine HM.out.mono ?_; rintro e w' ⟨rfl, rfl⟩)
    go_ret
    exact ⟨ret_bool HV.out.symm, Bar.refl _ _, rfl, by rw [HV.out]; exact HD.out⟩
  | false =>
    simp only [Bool.not_false, Bool.true_and] at hv
    by_cases h0 : m = 0
    · subst h0
      have hn := left_none h1
      have HV := Lib.hid (show v = false by rw [← hv]; unfold sgB; rw [hn])
      have HM := Lib.hid (more_to (v := false) (by simp; omega) HD.out)
      clear h1 h5 hv hm hn
      go_enter Tryd.func33, Tryd.ntmps33
      go_wp2_with (go_at_call 32; refine HM.out.mono ?_; rintro e w' ⟨rfl, rfl⟩)
      go_ret
      exact ⟨ret_bool HV.out.symm, Bar.refl _ _, rfl, by rw [HV.out]; exact HD.out⟩
    · have HM := Lib.hid (more_to (v := true) (by simp; omega) HD.out)
      obtain ⟨b, off, x, y, u, z, rfl, hbl, hx, ⟨d0, d1, d2, d3⟩, htl⟩ := left_at h1 (by omega)
      have hsg : sgB toks i c = (x == 1 && y == c) := by unfold sgB; rw [hx]
      rw [hsg] at hv
      have c0 : w.cell? ⟨g, 0, none⟩ = some (.slice (some ⟨b, off, none⟩) m c') := h5.box.2.2 0 _ rfl
      have f0 : w.frozen? ⟨g, 0, none⟩ = false := h5.box.2.1 0
      have g0 := h5.box.1
      have hpos : (0 : Int) < (m : Int) := by omega
      have hpos1 : (1 : Int) ≤ (m : Int) := by omega
      have HT := Lib.hid htl
      have HB := Lib.hid h5
      have HA := Lib.hid h2
      have hil : i < toks.length := by omega
      by_cases hk : x = 1
      · subst hk
        by_cases hy : y = c
        · subst hy
          have HV := Lib.hid (show v = true by rw [← hv]; simp)
          clear hv hsg hx htl h1 h5 h2
          by_cases hc1 : c' = 1
          · subst hc1
            obtain rfl : m = 1 := by omega
            go_enter Tryd.func33, Tryd.ntmps33
            go_wp2_with (go_at_call 32; refine HM.out.mono ?_; rintro e w' ⟨rfl, rfl⟩)
            go_ret
            exact ⟨ret_bool HV.out.symm, (Bar.refl _ _).set _ _, by simp, by rw [HV.out]; exact Rd.next HT.out (by omega) h3 (HA.out _ rfl) hil HB.out (some ⟨b, off, none⟩) rfl⟩
          · have hc2 : (c' = 1) = False := by simp [hc1]
            go_enter Tryd.func33, Tryd.ntmps33
            go_wp2_with (go_at_call 32; refine HM.out.mono ?_; rintro e w' ⟨rfl, rfl⟩)
            go_ret
            exact ⟨ret_bool HV.out.symm, (Bar.refl _ _).set _ _, by simp, by rw [HV.out]; exact Rd.next HT.out (by omega) h3 (HA.out _ rfl) hil HB.out _ (by rw [if_neg hc1])⟩
        · have hy2 : (y == c) = false := by simp [hy]
          have hy3 : (y != c) = true := by simp [hy]
          have HV := Lib.hid (show v = false by rw [← hv]; simp [hy])
          clear hv hsg hx htl h1 h5 h2
          go_enter Tryd.func33, Tryd.ntmps33
          go_wp2_with (go_at_call 32; refine HM.out.mono ?_; rintro e w' ⟨rfl, rfl⟩)
          go_ret
          exact ⟨ret_bool HV.out.symm, Bar.refl _ _, rfl, by rw [HV.out]; exact HD.out⟩
      · have hk2 : (x == 1) = false := by simp [hk]
        have hk3 : (x != 1) = true := by simp [hk]
        have HV := Lib.hid (show v = false by rw [← hv]; simp [hk])
        clear hv hsg hx htl h1 h5 h2
        go_enter Tryd.func33, Tryd.ntmps33
        go_wp2_with (go_at_call 32; refine HM.out.mono ?_; rintro e w' ⟨rfl, rfl⟩)
        go_ret
        exact ⟨ret_bool HV.out.symm, Bar.refl _ _, rfl, by rw [HV.out]; exact HD.out⟩
/-- the state behind a sign that must stand there. -/
def mustS (toks : List Tok) (i : Nat) (wr : Bool) (c : Int) : Nat × Bool := if !wr && sgB toks i c then (i + 1, false) else (i, true)
theorem must_to {toks : List Tok} {size : Int} {g : Nat} {w : World} {i j : Nat} {wr b : Bool} {row opn : Value} {s : Sty} {mp : Value} {c : Int} (hv : mustS toks i wr c = (j, b)) (h : Rd toks size g w i wr row opn s mp) :
    Calls Tryd.prog 62 #[.pointer (some ⟨g, 0, none⟩), .int .i32 c] w fun e w' => (∃ v, e = .returned v) ∧ Bar g w w' ∧ w'.heap.size = w.heap.size ∧ Rd toks size g w' j b row opn s mp := by
  unfold mustS at hv
  rcases hq : (!wr && sgB toks i c) with _ | _
  · rw [hq] at hv
    injection hv with e1 e2
    subst e1 e2
    have HM := Lib.hid (psign_to hq h)
    clear hq h
    go_enter Tryd.func62, Tryd.ntmps62
    go_wp2_with fail
    refine HM.out.mono ?_
    rintro e w' ⟨rfl, hb, hs, hr⟩
    have HB := Lib.hid hb
    have HR := Lib.hid hr
    have g0 := hr.lt
    have f2 : w'.frozen? ⟨g, 2, none⟩ = false := by obtain ⟨A, m, c', h1, h2, h3, h4, h5⟩ := hr; exact h5.box.2.1 2
    have c2 : w'.cell? ⟨g, 2, none⟩ = some (.bool wr) := by obtain ⟨A, m, c', h1, h2, h3, h4, h5⟩ := hr; exact h5.box.2.2 2 _ rfl
    clear hb hr
    go_wp2_with fail
    go_end0
    exact ⟨⟨_, rfl⟩, HB.out.set _ _, by simpa using hs, HR.out.set 2 _ (fun _ => rfl)⟩
  · rw [hq] at hv
    injection hv with e1 e2
    subst e1 e2
    have hwr : wr = false := by cases wr with | false => rfl | true => simp at hq
    have HM := Lib.hid (psign_to hq h)
    clear hq h
    go_enter Tryd.func62, Tryd.ntmps62
    go_wp2_with fail
    refine HM.out.mono ?_
    rintro e w' ⟨rfl, hb, hs, hr⟩
    have HB := Lib.hid hb
    have HR := Lib.hid hr
    clear hb hr
    go_wp2_with fail
    go_end0
    exact ⟨⟨_, rfl⟩, HB.out, hs, hwr ▸ HR.out⟩
/-- a number from lo to hi that must stand there: what is answered, and the state behind it. -/
def numS (toks : List Tok) (i : Nat) (wr : Bool) (lo hi : Int) : Int × Nat × Bool := if !wr && nmB toks i lo hi then (nAt toks i, i + 1, false) else (0, i, true)
theorem pnum_to {toks : List Tok} {size : Int} {g : Nat} {w : World} {i j : Nat} {wr b : Bool} {row opn : Value} {s : Sty} {mp : Value} {lo hi n : Int} (hv : numS toks i wr lo hi = (n, j, b)) (h : Rd toks size g w i wr row opn s mp) :
    Calls Tryd.prog 57 #[.pointer (some ⟨g, 0, none⟩), .int .i64 lo, .int .i64 hi] w fun e w' => e = .returned (.int .i64 n) ∧ Bar g w w' ∧ w'.heap.size = w.heap.size ∧ Rd toks size g w' j b row opn s mp := by
  have HD := Lib.hid h
  have glt := h.lt
  obtain ⟨A, m, c', h1, h2, h3, h4, h5⟩ := h
  have hm := h1.1
  rw [List.length_drop] at hm
  have hm2 := h1.2.1
  unfold numS at hv
  have f2 : w.frozen? ⟨g, 2, none⟩ = false := h5.box.2.1 2
  have c2 : w.cell? ⟨g, 2, none⟩ = some (.bool wr) := h5.box.2.2 2 _ rfl
  by_cases hmo : (!wr && decide (i < toks.length)) = false
  · have hq : (!wr && nmB toks i lo hi) = false := by
      cases wr with
      | true => rfl
      | false =>
        have hn : toks[i]? = none := List.getElem?_eq_none (by simpa using hmo)
        unfold nmB; rw [hn]; rfl
    rw [hq] at hv
    injection hv with e1 e2
    injection e2 with e2 e3
    subst e1 e2 e3
    have HM := Lib.hid (more_to hmo HD.out)
    clear h1 h5 hq hm hmo
    go_enter Tryd.func57, Tryd.ntmps57
    go_wp2_with (go_at_call 32; refine HM.out.mono ?_; rintro e w' ⟨rfl, rfl⟩)
    go_ret
    exact ⟨rfl, (Bar.refl _ _).set _ _, by simp, HD.out.set 2 _ (fun _ => rfl)⟩
  · have hmo : (!wr && decide (i < toks.length)) = true := by simpa using hmo
    have hwr : wr = false := by cases wr with | false => rfl | true => simp at hmo
    subst hwr
    have hil : i < toks.length := by simpa using hmo
    have HM := Lib.hid (more_to hmo HD.out)
    obtain ⟨p, off, x, y, u, z, rfl, hbl, hx, ⟨d0, d1, d2, d3⟩, htl⟩ := left_at h1 (by omega)
    have hsg : nmB toks i lo hi = (x == 2 && decide (lo ≤ u) && decide (u ≤ hi)) := by unfold nmB; rw [hx]
    have hna : nAt toks i = u := by unfold nAt; rw [hx]
    have c0 : w.cell? ⟨g, 0, none⟩ = some (.slice (some ⟨p, off, none⟩) m c') := h5.box.2.2 0 _ rfl
    have f0 : w.frozen? ⟨g, 0, none⟩ = false := h5.box.2.1 0
    have g0 := h5.box.1
    have hpos : (0 : Int) < (m : Int) := by omega
    have hpos1 : (1 : Int) ≤ (m : Int) := by omega
    have HT := Lib.hid htl
    have HB := Lib.hid h5
    have HA := Lib.hid h2
    simp only [Bool.not_false, Bool.true_and, hsg, hna] at hv
    clear hmo hm hsg hna hx htl h1 h5 h2
    by_cases hk : x = 2
    · subst hk
      by_cases hl : lo ≤ u
      · by_cases hu : u ≤ hi
        · have hb1 : decide (lo ≤ u) = true := by simp [hl]
          have hb2 : decide (u ≤ hi) = true := by simp [hu]
          rw [hb1, hb2] at hv
          injection hv with e1 e2
          injection e2 with e2 e3
          subst e1 e2 e3
          have n1 : decide (u < lo) = false := by simp; omega
          have n2 : decide (hi < u) = false := by simp; omega
          clear hb1 hb2
          by_cases hc1 : c' = 1
          · subst hc1
            obtain rfl : m = 1 := by omega
            go_enter Tryd.func57, Tryd.ntmps57
            go_wp2_with (go_at_call 32; refine HM.out.mono ?_; rintro e w' ⟨rfl, rfl⟩)
            go_ret
            exact ⟨rfl, (Bar.refl _ _).set _ _, by simp, Rd.next HT.out (by omega) h3 (HA.out _ rfl) hil HB.out (some ⟨p, off, none⟩) rfl⟩
          · have hc2 : (c' = 1) = False := by simp [hc1]
            go_enter Tryd.func57, Tryd.ntmps57
            go_wp2_with (go_at_call 32; refine HM.out.mono ?_; rintro e w' ⟨rfl, rfl⟩)
            go_ret
            exact ⟨rfl, (Bar.refl _ _).set _ _, by simp, Rd.next HT.out (by omega) h3 (HA.out _ rfl) hil HB.out _ (by rw [if_neg hc1])⟩
        · have hb2 : decide (u ≤ hi) = false := by simp; omega
          rw [hb2, Bool.and_false] at hv
          injection hv with e1 e2
          injection e2 with e2 e3
          subst e1 e2 e3
          have n1 : decide (u < lo) = false := by simp; omega
          have n2 : decide (hi < u) = true := by simp; omega
          go_enter Tryd.func57, Tryd.ntmps57
          go_wp2_with (go_at_call 32; refine HM.out.mono ?_; rintro e w' ⟨rfl, rfl⟩)
          go_ret
          exact ⟨rfl, (Bar.refl _ _).set _ _, by simp, HD.out.set 2 _ (fun _ => rfl)⟩
      · have hb1 : decide (lo ≤ u) = false := by simp; omega
        rw [hb1, Bool.and_false, Bool.false_and] at hv
        injection hv with e1 e2
        injection e2 with e2 e3
        subst e1 e2 e3
        have n1 : decide (u < lo) = true := by simp; omega
        go_enter Tryd.func57, Tryd.ntmps57
        go_wp2_with (go_at_call 32; refine HM.out.mono ?_; rintro e w' ⟨rfl, rfl⟩)
        go_ret
        exact ⟨rfl, (Bar.refl _ _).set _ _, by simp, HD.out.set 2 _ (fun _ => rfl)⟩
    · have hk2 : (x == 2) = false := by simp [hk]
      have hk3 : (x != 2) = true := by simp [hk]
      rw [hk2] at hv
      injection hv with e1 e2
      injection e2 with e2 e3
      subst e1 e2 e3
      go_enter Tryd.func57, Tryd.ntmps57
      go_wp2_with (go_at_call 32; refine HM.out.mono ?_; rintro e w' ⟨rfl, rfl⟩)
      go_ret
      exact ⟨rfl, (Bar.refl _ _).set _ _, by simp, HD.out.set 2 _ (fun _ => rfl)⟩
theorem plen_to {toks : List Tok} {size : Int} {g : Nat} {w : World} {i j : Nat} {wr b : Bool} {row opn : Value} {s : Sty} {mp : Value} {n : Int} (hv : numS toks i wr 1 maxN = (n, j, b)) (h : Rd toks size g w i wr row opn s mp) :
    Calls Tryd.prog 60 #[.pointer (some ⟨g, 0, none⟩)] w fun e w' => e = .returned (.int .i64 n) ∧ Bar g w w' ∧ w'.heap.size = w.heap.size ∧ Rd toks size g w' j b row opn s mp := by
  have HM := Lib.hid (pnum_to (lo := 1) (hi := 1099511627776) hv h)
  clear hv h
  go_enter Tryd.func60, Tryd.ntmps60
  go_wp2_with fail
  refine HM.out.mono ?_
  rintro e w' ⟨rfl, hb, hs, hr⟩
  have HB := Lib.hid hb
  have HR := Lib.hid hr
  clear hb hr
  go_wp2_with fail
  go_ret
  exact ⟨rfl, HB.out, hs, HR.out⟩
theorem pat_to {toks : List Tok} {size : Int} {g : Nat} {w : World} {i : Nat} {wr : Bool} {row opn : Value} {s : Sty} {mp : Value} {len : Nat} (hl : size = len) (h : Rd toks size g w i wr row opn s mp) :
    Calls Tryd.prog 17 #[.pointer (some ⟨g, 0, none⟩)] w fun e w' => e = .returned (.int .i64 (placeB toks len i)) ∧ w = w' := by
  subst hl
  obtain ⟨A, m, c', h1, h2, h3, h4, h5⟩ := h
  have hm := h1.1
  rw [List.length_drop] at hm
  have hm2 := h1.2.1
  have c0 : w.cell? ⟨g, 0, none⟩ = some (.slice A m c') := h5.box.2.2 0 _ rfl
  have c1 : w.cell? ⟨g, 1, none⟩ = some (.int .i64 len) := h5.box.2.2 1 _ rfl
  by_cases h0 : m = 0
  · subst h0
    have HP := Lib.hid (show placeB toks len i = len by unfold placeB; rw [left_none h1])
    clear h1 h5 hm
    go_enter Tryd.func17, Tryd.ntmps17
    go_wp2
    go_ret
    exact ⟨ret_int HP.out.symm, rfl⟩
  · obtain ⟨p, off, x, y, u, z, rfl, hbl, hx, ⟨d0, d1, d2, d3⟩, htl⟩ := left_at h1 (by omega)
    have HP := Lib.hid (show placeB toks len i = z by unfold placeB; rw [hx])
    have hpos : (0 : Int) < (m : Int) := by omega
    have hne : ((m : Int) == 0) = false := by simp [h0]
    clear h1 h5 hm htl hx
    go_enter Tryd.func17, Tryd.ntmps17
    go_wp2
    go_ret
    exact ⟨ret_int HP.out.symm, rfl⟩
end Go.Proofs.YtechccoongilcaaDoor
