import Derived.Test.YteginjdgapjadaaDoorJa12
import Derived.Test.YteginjdgapjadaaDoorJa01
import Derived.Test.YteginjdgapjadaaDoorJa13
import Derived.Test.YteginjdgapjadaaDoorJa11
import Derived.Test.YteginjdgapjadaaDoorJa00
import Derived.BigQuiet
/- The program's package read: rows of nodes compared. (Written by program: tools/drafts/geneqrow.py.) -/
namespace Go.Proofs.YteginjdgapjadaaDoor
open Go.RowKit
set_option linter.unusedVariables false
set_option linter.unusedSimpArgs false
theorem encM_all' (m : NdM) : ((encM m).toArray.all (·.oneCell')) = true := by
  rw [List.all_toArray]
  exact List.all_eq_true.2 (encM_one m)
theorem pnode_to {m1 m2 : NdM} {x1 x2 : Nd} {v : Bool} (hv : ndB x1 x2 = v) (w : World) (h1 : Shows w m1 x1) (h2 : Shows w m2 x2) : Calls Tryd.prog 28 #[.agg (encM m1).toArray, .agg (encM m2).toArray] w fun e w' => e = .returned (.bool v) ∧ Below w.heap.size w w' := by
  subst hv; exact pnode_any m1 m2 x1 x2 w h1 h2
set_option maxHeartbeats 4000000 in
set_option maxRecDepth 100000 in
theorem peqfunc_any (a b : List Nd) (A B : Option Addr) (n m ca cb : Nat) (w : World) (ha : Sees w A n a) (hb : Sees w B m b) : Calls Tryd.prog 27 #[.slice A n ca, .slice B m cb, .func (.func 28) #[] #[]] w fun e w' => e = .returned (.bool (ndsB a b)) ∧ Below w.heap.size w w' := by
  have hn := ha.bound
  have hm := hb.bound
  have hla := ha.len
  have hlb := hb.len
  by_cases hnm : n = m
  rotate_left
  · have HV := Lib.hid (ndsB_len (a := a) (b := b) (by omega))
    have h1 : ((n : Int) != (m : Int)) = true := by simp; omega
    clear ha hb hla hlb
    go_enter Tryd.func27, Tryd.ntmps27
    go_wp2_with fail
    go_ret
    exact ⟨ret_bool (by rw [HV.out]), Below.refl _ _⟩
  subst hnm
  have HA := Lib.hid ha
  have HB := Lib.hid hb
  have h1 : ((n : Int) != (n : Int)) = false := by simp
  clear ha hb
  go_enter Tryd.func27, Tryd.ntmps27
  go_wp2_with fail
  go_loopw [17] (fun i wr => ∃ k : Nat, k ≤ n ∧ i = .int .i64 k ∧ (∀ j, j < k → a[j]? = b[j]?) ∧ On w wr) (fun i _ => n - (intOf i).toNat)
  case atStart => exact ⟨0, by omega, rfl, fun j hj => by omega, On.refl w⟩
  case round =>
    obtain ⟨k, hk, rfl, hall, hon⟩ := hrel
    have HL := Lib.hid hall
    have HO := Lib.hid hon
    clear hall hon
    by_cases hlt : k < n
    · obtain ⟨b1, o1, m1, x1, rfl, hb1, e1, r1, s1⟩ := (HA.out.on HO.out).at_ hlt
      obtain ⟨b2, o2, m2, x2, rfl, hb2, e2, r2, s2⟩ := (HB.out.on HO.out).at_ hlt
      have hk2 : (k : Int) < (n : Int) := by omega
      have R1 := Lib.hid (range_on r1)
      have R2 := Lib.hid (range_on r2)
      have S1 := Lib.hid s1
      have S2 := Lib.hid s2
      have E1 := Lib.hid e1
      have E2 := Lib.hid e2
      obtain ⟨v, hv⟩ : ∃ v, ndB x1 x2 = v := ⟨_, rfl⟩
      have HV := Lib.hid hv
      clear r1 r2 s1 s2 e1 e2 hv
      go_wp2_with (first | ((with_reducible refine stop_load 39 (.tmp 20) ?_ ?_); exact rfl; refine Stop.intro ?_; refine wpList_load_mid rfl 39 (.tmp 20) rfl b1 (o1 + k * 20) rfl (encM m1) _ (R1.out wr (On.refl wr)) Tryd.underlying39 rfl (by kernel_rfl) ?_) | ((with_reducible refine stop_store 39 (.tmp 8) (.tmp 21) ?_ ?_); exact rfl))
      refine Stop.intro ?_
      refine wpList_store_row rfl 39 (.tmp 8) (.tmp 21) rfl wr.heap.size rfl 39 #[.int .i64 0, .int .i64 0, .int .i64 0, .int .i64 0, .int .i64 0, .int .i64 0, .int .i64 0, .int .i64 0, .int .i64 0, .int .i64 0, .int .i64 0, .int .i64 0, .int .i64 0, .int .i64 0, .int .i64 0, .int .i64 0, .slice none 0 0, .int .i64 0, .int .i64 0, .int .i64 0] (encM m1).toArray rfl (Blk.new wr 39 [.int .i64 0, .int .i64 0, .int .i64 0, .int .i64 0, .int .i64 0, .int .i64 0, .int .i64 0, .int .i64 0, .int .i64 0, .int .i64 0, .int .i64 0, .int .i64 0, .int .i64 0, .int .i64 0, .int .i64 0, .int .i64 0, .slice none 0 0, .int .i64 0, .int .i64 0, .int .i64 0] _ rfl _ rfl) (by kernel_rfl) rfl (encM_all' m1) ?_
      intro V hV
      have hVs : V.heap.size = wr.heap.size + 1 := by rw [hV, setRow_size]; simp
      have hbV : On wr V := by rw [hV]; exact below_setRow ((Below.refl _ _).alloc (Nat.le_refl _) _) (Nat.le_refl _) _
      have HK1 := Lib.hid (show Blk V wr.heap.size 39 (encM m1) by rw [hV]; exact Blk.row (Blk.new wr 39 [.int .i64 0, .int .i64 0, .int .i64 0, .int .i64 0, .int .i64 0, .int .i64 0, .int .i64 0, .int .i64 0, .int .i64 0, .int .i64 0, .int .i64 0, .int .i64 0, .int .i64 0, .int .i64 0, .int .i64 0, .int .i64 0, .slice none 0 0, .int .i64 0, .int .i64 0, .int .i64 0] _ rfl _ rfl) _ _ rfl)
      have HVs := Lib.hid hVs
      clear hV hVs
      go_wp2_with (first | ((with_reducible refine stop_load 39 (.tmp 24) ?_ ?_); exact rfl; refine Stop.intro ?_; refine wpList_load_mid rfl 39 (.tmp 24) rfl b2 (o2 + k * 20) rfl (encM m2) _ (R2.out V hbV) Tryd.underlying39 rfl (by kernel_rfl) ?_) | ((with_reducible refine stop_store 39 (.tmp 9) (.tmp 25) ?_ ?_); exact rfl))
      refine Stop.intro ?_
      refine wpList_store_row rfl 39 (.tmp 9) (.tmp 25) rfl V.heap.size rfl 39 #[.int .i64 0, .int .i64 0, .int .i64 0, .int .i64 0, .int .i64 0, .int .i64 0, .int .i64 0, .int .i64 0, .int .i64 0, .int .i64 0, .int .i64 0, .int .i64 0, .int .i64 0, .int .i64 0, .int .i64 0, .int .i64 0, .slice none 0 0, .int .i64 0, .int .i64 0, .int .i64 0] (encM m2).toArray rfl (Blk.new V 39 [.int .i64 0, .int .i64 0, .int .i64 0, .int .i64 0, .int .i64 0, .int .i64 0, .int .i64 0, .int .i64 0, .int .i64 0, .int .i64 0, .int .i64 0, .int .i64 0, .int .i64 0, .int .i64 0, .int .i64 0, .int .i64 0, .slice none 0 0, .int .i64 0, .int .i64 0, .int .i64 0] _ rfl _ rfl) (by kernel_rfl) rfl (encM_all' m2) ?_
      intro U hU
      have hbU : On wr U := below_then hbV (by rw [hU]; exact below_setRow ((Below.refl _ _).alloc (Nat.le_refl _) _) (Nat.le_refl _) _)
      have HK2 := Lib.hid (show Blk U V.heap.size 39 (encM m2) by rw [hU]; exact Blk.row (Blk.new V 39 [.int .i64 0, .int .i64 0, .int .i64 0, .int .i64 0, .int .i64 0, .int .i64 0, .int .i64 0, .int .i64 0, .int .i64 0, .int .i64 0, .int .i64 0, .int .i64 0, .int .i64 0, .int .i64 0, .int .i64 0, .int .i64 0, .slice none 0 0, .int .i64 0, .int .i64 0, .int .i64 0] _ rfl _ rfl) _ _ rfl)
      have HK3 := Lib.hid (show Blk U wr.heap.size 39 (encM m1) by rw [hU]; exact (HK1.out.alloc _).row_other (by have := HVs.out; omega) _)
      clear hU hbV
      go_wp2_with (first | ((with_reducible refine stop_load 39 (.tmp 8) ?_ ?_); exact rfl; refine Stop.intro ?_; refine Go.Proofs.YteginjdgapjadaaDoor.wpList_load_row rfl 39 (.tmp 8) rfl (wr.heap.size) rfl 39 (encM m1).toArray _ (HK3.out) Tryd.underlying39 rfl (by kernel_rfl) ?_) | ((with_reducible refine stop_load 39 (.tmp 9) ?_ ?_); exact rfl; refine Stop.intro ?_; refine Go.Proofs.YteginjdgapjadaaDoor.wpList_load_row rfl 39 (.tmp 9) rfl (V.heap.size) rfl 39 (encM m2).toArray _ (HK2.out) Tryd.underlying39 rfl (by kernel_rfl) ?_))
      refine (pnode_to HV.out _ (S1.out.below hbU) (S2.out.below hbU)).mono ?_
      rintro e w5 ⟨rfl, hb5⟩
      have HO5 := Lib.hid (below_then HO.out (below_then hbU hb5))
      clear hb5 hbU
      cases v with
      | true =>
        have hxx := (ndB_iff x1 x2).1 HV.out
        subst hxx
        go_wp2_with fail
        go_roundw
        case rel => exact ⟨k + 1, by omega, by go_num, fun j hj => by
          by_cases e : j = k
          · subst e; rw [E1.out, E2.out]
          · exact HL.out j (by omega), HO5.out⟩
        case measure => simp [intOf]; omega
      | false =>
        have HW := Lib.hid (ndsB_ne E1.out E2.out (fun e => by have := (ndB_iff x1 x2).2 e; rw [HV.out] at this; cases this))
        go_wp2_with fail
        go_ret
        exact ⟨ret_bool (by rw [HW.out]), HO5.out⟩
    · have HW := Lib.hid (ndsB_all (a := a) (b := b) (by omega) (fun j hj => HL.out j (by omega)))
      have hk2 : (n : Int) ≤ (k : Int) := by omega
      go_wp2_with fail
      go_ret
      exact ⟨ret_bool (by rw [HW.out]), HO.out⟩
/-- Same tells whether two rows are. -/
theorem psame_any (a b : List Nd) (A B : Option Addr) (n m ca cb : Nat) (w : World) (ha : Sees w A n a) (hb : Sees w B m b) : Calls Tryd.prog 14 #[.slice A n ca, .slice B m cb] w fun e w' => e = .returned (.bool (ndsB a b)) ∧ Below w.heap.size w w' := by
  have HC := Lib.hid (peqfunc_any a b A B n m ca cb w ha hb)
  clear ha hb
  go_enter Tryd.func14, Tryd.ntmps14
  go_wp2_with fail
  refine HC.out.mono ?_
  rintro e w5 ⟨rfl, hb5⟩
  go_wp2_with fail
  go_ret
  exact ⟨rfl, hb5⟩
end Go.Proofs.YteginjdgapjadaaDoor
/- The program's package read: a new reader. -/
namespace Go.Proofs.YteginjdgapjadaaDoor
open Go.RowKit Go.ChangeMaps
set_option linter.unusedVariables false
set_option linter.unusedSimpArgs false
theorem Box.ne_slice {w : World} {n g : Nat} {v : Value} {A : Option Addr} {m c : Nat} (h : Box w n [v]) (hg : w.cell? ⟨g, 0, none⟩ = some (.slice A m c)) (hv : ∀ A m c, v ≠ .slice A m c) : n ≠ g := by
  rintro rfl
  have q := h.2.2 0 _ rfl
  rw [hg] at q
  injection q with q
  exact hv _ _ _ q.symm
theorem Tells.bar {w w' : World} {rb g : Nat} {part : Addr} {lo hi : Int} {v : Value} {A : Option Addr} {m c : Nat} (h : Tells w rb part lo hi v) (hg : w.cell? ⟨g, 0, none⟩ = some (.slice A m c)) (hb : Bar g w w') : Tells w' rb part lo hi v := by
  obtain ⟨D, h1, h2, h3, h4⟩ := h
  exact ⟨D, h1, h2.bar hb (h2.ne_slice hg (by intros; simp)), h3.bar hb (h3.ne_slice hg (by intros; simp)), h4.bar hb (h4.ne_slice hg (by intros; simp))⟩
theorem Lets.bar' {w w' : World} {rb g M : Nat} {A : Option Addr} {m c : Nat} (h : Lets w rb g M) (hg : w.cell? ⟨g, 0, none⟩ = some (.slice A m c)) (hb : Bar g w w') : Lets w' rb g M := by
  obtain ⟨l, h1, h2, h3⟩ := h.ex
  exact ⟨h.box.bar hb h.ne.1, h.ne, l, h1.bar hb h.ne.2, fun p hp => ⟨(h2 p hp).1, (h2 p hp).2.bar hg hb⟩, h3⟩
theorem Lets.bar {toks : List Tok} {size : Int} {i : Nat} {wr : Bool} {row opn : Value} {s : Sty} {mp : Value} {w w' : World} {rb g M : Nat} (h : Lets w rb g M) (hr : Rd toks size g w i wr row opn s mp) (hb : Bar g w w') : Lets w' rb g M := by
  obtain ⟨A, m, c, h1, h2, h3, h4, h5⟩ := hr
  exact h.bar' (h5.box.2.2 0 _ rfl) hb
set_option maxRecDepth 100000 in
theorem newreader_any (toks : List Tok) (A : Option Addr) (m c : Nat) (size : Int) (w : World) (h : Rows 4 encT w A m toks) (hc : m ≤ c) (hA : Apart w.heap.size A) :
    Calls Tryd.prog 21 #[.slice A m c, .int .i64 size] w fun e w' => ∃ rb M, e = .returned (.pointer (some ⟨w.heap.size, 0, none⟩)) ∧
      Rd toks size w.heap.size w' 0 false (.slice none 0 0) (.slice none 0 0) .none (.map (some M)) ∧ Lets w' rb w.heap.size M ∧ Below w.heap.size w w' := by
  have HR := Lib.hid h
  clear h
  go_enter Tryd.func21, Tryd.ntmps21
  go_wp2_with fail
  refine (letters_any w.heap.size _ (by simp)).mono ?_
  rintro e w1 ⟨M, rb, rfl, hl, hb⟩
  have hB : Blk (w.alloc (.cells (rcells (.slice A m c) size false (.slice none 0 0) (.slice none 0 0) .none (.map none)).toArray 52)) w.heap.size 52 (rcells (.slice A m c) size false (.slice none 0 0) (.slice none 0 0) .none (.map none)) := Blk.new w _ _ _ rfl _ rfl
  have hB1 : Blk w1 w.heap.size 52 (rcells (.slice A m c) size false (.slice none 0 0) (.slice none 0 0) .none (.map none)) := hB.on hb
  have hw1 : Below w.heap.size w w1 := Below.trans ((Below.refl w.heap.size w).alloc (Nat.le_refl _) _) (hb.mono (by simp))
  have hr : Rd toks size w.heap.size w1 0 false (.slice none 0 0) (.slice none 0 0) .none (.map none) := ⟨A, m, c, by simpa using HR.out.below hw1, hA, hc, Nat.zero_le _, hB1⟩
  have g0 := hr.lt
  have f17 := hr.frozen 17
  obtain ⟨v17, c17⟩ := hr.cell 17 (by omega)
  have HRd := Lib.hid hr
  have HL := Lib.hid hl
  have HW := Lib.hid hw1
  clear hr hl hw1 hB hB1 hb
  go_wp2_with fail
  go_ret
  exact ⟨rb, M, rfl, HRd.out.set 17 _ (fun _ => rfl), HL.out.bar HRd.out ((Bar.refl _ _).set _ _), ((Bar.refl w.heap.size w1).set 17 (.map (some M))).below (Nat.le_refl _) HW.out.size |> HW.out.trans⟩
end Go.Proofs.YteginjdgapjadaaDoor
/- The program's package read: a side; a box, a float, or nothing that begins. -/
namespace Go.Proofs.YteginjdgapjadaaDoor
open Go.RowKit
set_option linter.unusedVariables false
set_option linter.unusedSimpArgs false
def sideS (toks : List Tok) (i : Nat) (wr : Bool) : Int × Nat × Bool := if !wr && sgB toks i 76 then (1, i + 1, false) else (2, mustS toks i wr 82)
theorem pside_to {toks : List Tok} {size : Int} {g : Nat} {w : World} {i j : Nat} {wr b : Bool} {row opn : Value} {s : Sty} {mp : Value} {n : Int} (hv : sideS toks i wr = (n, j, b)) (h : Rd toks size g w i wr row opn s mp) :
    Calls Tryd.prog 58 #[.pointer (some ⟨g, 0, none⟩)] w fun e w' => e = .returned (.int .i64 n) ∧ Bar g w w' ∧ w'.heap.size = w.heap.size ∧ Rd toks size g w' j b row opn s mp := by
  unfold sideS at hv
  rcases hq : (!wr && sgB toks i 76) with _ | _
  · rw [hq] at hv
    injection hv with e1 hm
    subst e1
    have HM := Lib.hid (psign_to hq h)
    have HN := Lib.hid hm
    clear hq h hm
    go_enter Tryd.func58, Tryd.ntmps58
    go_wp2_with fail
    refine HM.out.mono ?_
    rintro e w' ⟨rfl, hb, hs, hr⟩
    have HB := Lib.hid hb
    have HR := Lib.hid hr
    clear hb hr
    go_wp2_with fail
    refine (must_to HN.out HR.out).mono ?_
    rintro e w2 ⟨⟨v, rfl⟩, hb2, hs2, hr2⟩
    have HB2 := Lib.hid hb2
    have HR2 := Lib.hid hr2
    clear hb2 hr2
    go_wp2_with fail
    go_ret
    exact ⟨rfl, HB.out.trans HB2.out, by omega, HR2.out⟩
  · rw [hq] at hv
    injection hv with e1 e2
    injection e2 with e2 e3
    subst e1 e2 e3
    have hwr : wr = false := by cases wr with | false => rfl | true => simp at hq
    subst hwr
    have HM := Lib.hid (psign_to hq h)
    clear hq h
    go_enter Tryd.func58, Tryd.ntmps58
    go_wp2_with fail
    refine HM.out.mono ?_
    rintro e w' ⟨rfl, hb, hs, hr⟩
    have HB := Lib.hid hb
    have HR := Lib.hid hr
    clear hb hr
    go_wp2_with fail
    go_ret
    exact ⟨rfl, HB.out, hs, HR.out⟩
theorem psign_no {toks : List Tok} {size : Int} {g : Nat} {w : World} {i : Nat} {wr : Bool} {row opn : Value} {s : Sty} {mp : Value} {c : Int} (hv : (!wr && sgB toks i c) = false) (h : Rd toks size g w i wr row opn s mp) :
    Calls Tryd.prog 36 #[.pointer (some ⟨g, 0, none⟩), .int .i32 c] w fun e w' => e = .returned (.bool false) ∧ Bar g w w' ∧ w'.heap.size = w.heap.size ∧ Rd toks size g w' i wr row opn s mp := psign_to hv h
theorem psign_yes {toks : List Tok} {size : Int} {g : Nat} {w : World} {i : Nat} {row opn : Value} {s : Sty} {mp : Value} {c : Int} (hv : sgB toks i c = true) (h : Rd toks size g w i false row opn s mp) :
    Calls Tryd.prog 36 #[.pointer (some ⟨g, 0, none⟩), .int .i32 c] w fun e w' => e = .returned (.bool true) ∧ Bar g w w' ∧ w'.heap.size = w.heap.size ∧ Rd toks size g w' (i + 1) false row opn s mp := psign_to (v := true) (by simpa using hv) h
/-- what a thing is asked by: one of four signs, or none. -/
theorem thing_none {toks : List Tok} {size : Int} {g : Nat} {w : World} {i : Nat} {row opn : Value} {s : Sty} {mp : Value} (ho : opens toks i = false) (h : Rd toks size g w i false row opn s mp) :
    Calls Tryd.prog 39 #[.pointer (some ⟨g, 0, none⟩)] w fun e w' => e = .returned .nilIface ∧ Bar g w w' ∧ Rd toks size g w' i true row opn s mp := by
  unfold opens at ho
  simp only [Bool.or_eq_false_iff] at ho
  obtain ⟨⟨⟨h1, h2⟩, h3⟩, h4⟩ := ho
  have H1 := Lib.hid h1
  have H2 := Lib.hid h2
  have H3 := Lib.hid h3
  have H4 := Lib.hid h4
  have HR := Lib.hid h
  have HB := Lib.hid (Bar.refl g w)
  clear h1 h2 h3 h4 h
  go_enter Tryd.func39, Tryd.ntmps39
  go_wp2_with fail
  refine (psign_no (by rw [H1.out]; rfl) HR.out).mono ?_
  rintro e w1 ⟨rfl, hb, hs1, hr⟩
  have HR := Lib.hid hr
  have HB := Lib.hid (HB.out.trans hb)
  clear hb hr
  go_wp2_with fail
  refine (psign_no (by rw [H2.out]; rfl) HR.out).mono ?_
  rintro e w2 ⟨rfl, hb, hs2, hr⟩
  have HR := Lib.hid hr
  have HB := Lib.hid (HB.out.trans hb)
  clear hb hr
  go_wp2_with fail
  refine (psign_no (by rw [H3.out]; rfl) HR.out).mono ?_
  rintro e w3 ⟨rfl, hb, hs3, hr⟩
  have HR := Lib.hid hr
  have HB := Lib.hid (HB.out.trans hb)
  clear hb hr
  go_wp2_with fail
  refine (psign_no (by rw [H4.out]; rfl) HR.out).mono ?_
  rintro e w4 ⟨rfl, hb, hs4, hr⟩
  have HR := Lib.hid hr
  have HB := Lib.hid (HB.out.trans hb)
  have g0 := hr.lt
  have f2 := hr.frozen 2
  obtain ⟨v2, c2⟩ := hr.cell 2 (by omega)
  clear hb hr
  go_wp2_with fail
  go_ret
  exact ⟨rfl, HB.out.set _ _, HR.out.set 2 _ (fun _ => rfl)⟩
theorem thing_box {toks : List Tok} {size : Int} {g : Nat} {w : World} {i j1 j2 : Nat} {b1 b2 : Bool} {n1 n2 : Int} {row opn : Value} {s : Sty} {mp : Value} (ho : sgB toks i 123 = true)
    (hv1 : numS toks (i + 1) false 1 maxN = (n1, j1, b1)) (hv2 : numS toks j1 b1 1 maxN = (n2, j2, b2)) (h : Rd toks size g w i false row opn s mp) :
    Calls Tryd.prog 39 #[.pointer (some ⟨g, 0, none⟩)] w fun e w' => e = .returned (.iface 98 (.agg #[.int .i64 n1, .int .i64 n2])) ∧ Bar g w w' ∧ Rd toks size g w' j2 b2 row opn s mp := by
  have H1 := Lib.hid (sgB_one ho (show (123 : Int) ≠ 91 by decide))
  have H2 := Lib.hid (sgB_one ho (show (123 : Int) ≠ 40 by decide))
  have H3 := Lib.hid ho
  have HV1 := Lib.hid hv1
  have HV2 := Lib.hid hv2
  have HR := Lib.hid h
  have HB := Lib.hid (Bar.refl g w)
  clear ho hv1 hv2 h
  go_enter Tryd.func39, Tryd.ntmps39
  go_wp2_with fail
  refine (psign_no (by rw [H1.out]; rfl) HR.out).mono ?_
  rintro e w1 ⟨rfl, hb, hs1, hr⟩
  have HR := Lib.hid hr
  have HB := Lib.hid (HB.out.trans hb)
  clear hb hr
  go_wp2_with fail
  refine (psign_no (by rw [H2.out]; rfl) HR.out).mono ?_
  rintro e w2 ⟨rfl, hb, hs2, hr⟩
  have HR := Lib.hid hr
  have HB := Lib.hid (HB.out.trans hb)
  clear hb hr
  go_wp2_with fail
  refine (psign_yes H3.out HR.out).mono ?_
  rintro e w3 ⟨rfl, hb, hs3, hr⟩
  have HR := Lib.hid (hr.bar (Bar.refl g _).drew rfl)
  have HB := Lib.hid (HB.out.trans hb).drew
  clear hb hr
  go_wp2_with fail
  go_region_held3 (fun _ => True) (trivial) (first
    | (go_at_call 57; ((with_reducible refine (plen_to HV1.out HR.out).mono ?_); rintro e w4 ⟨rfl, hb, hs4, hr⟩; have HR1 := Lib.hid hr; have HB1 := Lib.hid (HB.out.trans hb); clear hb hr))
    | (go_at_call 57; ((with_reducible refine (plen_to HV2.out HR1.out).mono ?_); rintro e w5 ⟨rfl, hb, hs5, hr⟩; have HR2 := Lib.hid hr; have HB2 := Lib.hid (HB1.out.trans hb); clear hb hr)))
  go_wp2_with fail
  go_ret
  exact ⟨rfl, HB2.out, HR2.out⟩
end Go.Proofs.YteginjdgapjadaaDoor
/- The program's package read: a block's attributes. -/
namespace Go.Proofs.YteginjdgapjadaaDoor
open Go.RowKit Go.ChangeMaps
set_option linter.unusedVariables false
set_option linter.unusedSimpArgs false
theorem Bar.then {g B : Nat} {w w' w'' : World} (h : Bar g w w') (hb : Below B w' w'') (hB : w.heap.size ≤ B) : Bar g w w'' :=
  ⟨hb.os.trans h.os, hb.tape.trans h.tape, hb.output.trans h.output, Nat.le_trans h.size hb.size, fun k hk hg => (hb.block k (by omega)).trans (h.block k hk hg)⟩
theorem rcells_with {s : Sty} {c : Int} (hc : c ∈ lettersB) (n : Int) (left row opn mp : Value) (size : Int) (wr : Bool) : (rcells left size wr row opn s mp).set (5 + posB c) (.int .i64 n) = rcells left size wr row opn (withB s c n) mp := by
  simp only [lettersB, List.mem_cons, List.not_mem_nil, or_false] at hc
  rcases hc with rfl | rfl | rfl | rfl | rfl | rfl | rfl | rfl | rfl | rfl | rfl | rfl <;> rfl
theorem find_sg {l : List Tok} {i : Nat} {x y u z : Int} (hx : l[i]? = some ⟨x, y, u, z⟩) (cs : List Int) : cs.find? (sgB l i) = if x = 1 ∧ y ∈ cs then some y else none := by
  have hs : ∀ c, sgB l i c = (x == 1 && y == c) := fun c => by unfold sgB; rw [hx]
  induction cs with
  | nil => simp
  | cons c cs ih =>
    rw [List.find?_cons, hs, ih]
    by_cases h1 : x = 1
    · by_cases h2 : y = c
      · subst h2; simp [h1]
      · have : (y == c) = false := by simpa using h2
        simp [h1, this, h2]
    · have : (x == 1) = false := by simpa using h1
      simp [this, h1]
theorem letterB_at {l : List Tok} {i : Nat} {x y u z : Int} (hx : l[i]? = some ⟨x, y, u, z⟩) (told : List Int) : letterB l i told = if x = 1 ∧ y ∈ lettersB then (if y ∈ told then 0 else y) else 0 := by
  unfold letterB
  rw [find_sg hx]
  by_cases h : x = 1 ∧ y ∈ lettersB
  · rw [if_pos h, if_pos h]
  · rw [if_neg h, if_neg h]
/-- what is told wrong there. -/
def AttrsBad (toks : List Tok) (i a : Nat) : Prop := Attrs toks i .plain [] (.bad a) ∨ ∃ s, Attrs toks i .plain [] (.ok s a) ∧ ∀ c, sgB toks a c = false
/-- attributes are read up to j: what holds there. -/
def AtJ (toks : List Tok) (i j : Nat) (b : Bool) (s : Sty) (zs : List Int) : Prop := (b = false → ∀ r, Attrs toks j s zs r → Attrs toks i .plain [] r) ∧ (b = true → AttrsBad toks i j)
theorem AtJ.stop {toks : List Tok} {i j : Nat} {b : Bool} {s : Sty} {zs : List Int} (h : AtJ toks i j b s zs) (h0 : b = false → letterB toks j zs = 0) : (b = false → Attrs toks i .plain [] (.ok s j)) ∧ (b = true → AttrsBad toks i j) :=
  ⟨fun e => h.1 e _ (.stop (h0 e)), h.2⟩
theorem AtJ.step {toks : List Tok} {i j : Nat} {s : Sty} {zs : List Int} (h : AtJ toks i j false s zs) {x y u z : Int} (hx : toks[j]? = some ⟨x, y, u, z⟩) (hy : y ∈ lettersB) (hn : y ∉ zs) {j1 j2 : Nat} {b1 b2 : Bool} {n : Int}
    (h1 : mustS toks j false y = (j1, b1)) (h2 : numS toks j1 b1 (limitB y).1 (limitB y).2 = (n, j2, b2)) : AtJ toks i j2 b2 (withB s y n) (zs ++ [y]) ∧ (if b2 then j ≤ j2 else j2 = j + 2) ∧ j2 ≤ toks.length := by
  have hlt := (List.getElem?_eq_some_iff.1 hx).1
  have hs : ∀ c, sgB toks j c = (x == 1 && y == c) := fun c => by unfold sgB; rw [hx]
  have hl := letterB_at hx zs
  have hy0 : y ≠ 0 := by intro e; subst e; revert hy; decide
  by_cases hk : x = 1
  · have hly : letterB toks j zs = y := by rw [hl, if_pos ⟨hk, hy⟩, if_neg hn]
    have hm : mustS toks j false y = (j + 1, false) := by unfold mustS; rw [hs]; simp [hk]
    rw [hm] at h1
    cases h1
    by_cases hnm : nmB toks (j + 1) (limitB y).1 (limitB y).2 = true
    · have : numS toks (j + 1) false (limitB y).1 (limitB y).2 = (nAt toks (j + 1), j + 1 + 1, false) := by unfold numS; simp [hnm]
      rw [this] at h2
      cases h2
      refine ⟨⟨fun _ r hr => h.1 rfl r (.step (by rw [hly]; exact hy0) (by rw [hly]; exact hnm) (by rw [hly]; exact hr)), fun e => by cases e⟩, rfl, ?_⟩
      exact nmB_lt hnm
    · have hnm : nmB toks (j + 1) (limitB y).1 (limitB y).2 = false := by simpa using hnm
      have : numS toks (j + 1) false (limitB y).1 (limitB y).2 = (0, j + 1, true) := by unfold numS; simp [hnm]
      rw [this] at h2
      cases h2
      refine ⟨⟨fun e => (by cases e), fun _ => .inl (h.1 rfl _ (.bad (by rw [hly]; exact hy0) (by rw [hly]; exact hnm)))⟩, ?_, hlt⟩
      simp
  · have hk' : (x == 1) = false := by simpa using hk
    have hm : mustS toks j false y = (j, true) := by unfold mustS; rw [hs]; simp [hk']
    rw [hm] at h1
    cases h1
    have : numS toks j true (limitB y).1 (limitB y).2 = (0, j, true) := by unfold numS; simp
    rw [this] at h2
    cases h2
    refine ⟨⟨fun e => (by cases e), fun _ => .inr ⟨s, h.1 rfl _ (.stop (by rw [hl, if_neg (fun q => hk q.1)])), fun c => by rw [hs, hk']; rfl⟩⟩, ?_, by omega⟩
    simp
theorem info_i32 : (Tryd.prog.info? 21).map (fun i => (i.zero, i.size, i.bytes)) = some (some (.int .i32 0), 1, 4) := by kernel_rfl
end Go.Proofs.YteginjdgapjadaaDoor
/- The program's package read: a float. -/
namespace Go.Proofs.YteginjdgapjadaaDoor
open Go.RowKit
set_option linter.unusedVariables false
set_option linter.unusedSimpArgs false
theorem thing_float {toks : List Tok} {size : Int} {g : Nat} {w : World} {i j0 j1 j2 : Nat} {b0 b1 b2 : Bool} {n0 n1 n2 : Int} {row opn : Value} {s : Sty} {mp : Value} (ho : sgB toks i 60 = true)
    (hv0 : sideS toks (i + 1) false = (n0, j0, b0)) (hv1 : numS toks j0 b0 1 maxN = (n1, j1, b1)) (hv2 : numS toks j1 b1 1 maxN = (n2, j2, b2)) (h : Rd toks size g w i false row opn s mp) :
    Calls Tryd.prog 39 #[.pointer (some ⟨g, 0, none⟩)] w fun e w' => e = .returned (.iface 100 (.agg #[.int .i64 n0, .int .i64 n1, .int .i64 n2])) ∧ Bar g w w' ∧ Rd toks size g w' j2 b2 row opn s mp := by
  have H1 := Lib.hid (sgB_one ho (show (60 : Int) ≠ 91 by decide))
  have H2 := Lib.hid (sgB_one ho (show (60 : Int) ≠ 40 by decide))
  have H3 := Lib.hid (sgB_one ho (show (60 : Int) ≠ 123 by decide))
  have H4 := Lib.hid ho
  have HV0 := Lib.hid hv0
  have HV1 := Lib.hid hv1
  have HV2 := Lib.hid hv2
  have HR := Lib.hid h
  have HB := Lib.hid (Bar.refl g w)
  clear ho hv0 hv1 hv2 h
  go_enter Tryd.func39, Tryd.ntmps39
  go_wp2_with fail
  refine (psign_no (by rw [H1.out]; rfl) HR.out).mono ?_
  rintro e w1 ⟨rfl, hb, hs1, hr⟩
  have HR := Lib.hid hr
  have HB := Lib.hid (HB.out.trans hb)
  clear hb hr
  go_wp2_with fail
  refine (psign_no (by rw [H2.out]; rfl) HR.out).mono ?_
  rintro e w2 ⟨rfl, hb, hs2, hr⟩
  have HR := Lib.hid hr
  have HB := Lib.hid (HB.out.trans hb)
  clear hb hr
  go_wp2_with fail
  refine (psign_no (by rw [H3.out]; rfl) HR.out).mono ?_
  rintro e w3 ⟨rfl, hb, hs3, hr⟩
  have HR := Lib.hid hr
  have HB := Lib.hid (HB.out.trans hb)
  clear hb hr
  go_wp2_with fail
  refine (psign_yes H4.out HR.out).mono ?_
  rintro e w4 ⟨rfl, hb, hs4, hr⟩
  have HR := Lib.hid (hr.bar (Bar.refl g _).drew rfl)
  have HB := Lib.hid (HB.out.trans hb).drew
  clear hb hr
  go_wp2_with fail
  go_region_held3 (fun _ => True) (trivial) (first
    | (go_at_call 58; ((with_reducible refine (pside_to HV0.out HR.out).mono ?_); rintro e w5 ⟨rfl, hb, hs5, hr⟩; have HR0 := Lib.hid hr; have HB0 := Lib.hid (HB.out.trans hb); clear hb hr))
    | (go_at_call 57; ((with_reducible refine (plen_to HV1.out HR0.out).mono ?_); rintro e w6 ⟨rfl, hb, hs6, hr⟩; have HR1 := Lib.hid hr; have HB1 := Lib.hid (HB0.out.trans hb); clear hb hr))
    | (go_at_call 57; ((with_reducible refine (plen_to HV2.out HR1.out).mono ?_); rintro e w7 ⟨rfl, hb, hs7, hr⟩; have HR2 := Lib.hid hr; have HB2 := Lib.hid (HB1.out.trans hb); clear hb hr)))
  go_wp2_with fail
  go_ret
  exact ⟨rfl, HB2.out, HR2.out⟩
end Go.Proofs.YteginjdgapjadaaDoor
