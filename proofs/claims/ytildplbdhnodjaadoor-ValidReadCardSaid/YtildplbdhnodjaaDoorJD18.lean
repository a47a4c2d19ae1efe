import Derived.Test.YtildplbdhnodjaaDoorJD14
import Derived.Test.YtildplbdhnodjaaDoorJD13
import Derived.Test.YtildplbdhnodjaaDoorJD00
import Derived.BigQuiet
/- The program's package read: a new reader. -/
namespace Go.Proofs.YtildplbdhnodjaaDoor
open Go.RowKit Go.ChangeMaps
set_option linter.unusedVariables false
set_option linter.unusedSimpArgs false
theorem Box.ne_slice {w : World} {n g : Nat} {v : Value} {A : Option Addr} {m c : Nat} (h : Box w n [v]) (hg : w.cell? ⟨g, 0, none⟩ = some (.slice A m c)) (hv : ∀ A m c, v ≠ .slice A m c) : n ≠ g := by
  rintro rfl
  have q := h.2.2 0 _ rfl
  rw [hg] at q
  injection q with q
  exact hv _ _ _ q.symm
theorem Tells.bar {w w' : World} {rb g : Nat} {part : Addr} {lo hi : Int} {v : Value} {A : Option Addr} {m c : Nat} (h : Tells w rb part lo hi v) (hg : w.cell? ⟨g, 0, none⟩ = some (.slice A m c)) (hb : Bar g w w') : Tells w' rb part lo hi v := by
  obtain ⟨D, h1, h2, h3, h4⟩ := h
  exact ⟨D, h1, h2.bar hb (h2.ne_slice hg (by intros; simp)), h3.bar hb (h3.ne_slice hg (by intros; simp)), h4.bar hb (h4.ne_slice hg (by intros; simp))⟩
theorem Lets.bar' {w w' : World} {rb g M : Nat} {A : Option Addr} {m c : Nat} (h : Lets w rb g M) (hg : w.cell? ⟨g, 0, none⟩ = some (.slice A m c)) (hb : Bar g w w') : Lets w' rb g M := by
  obtain ⟨l, h1, h2, h3⟩ := h.ex
  exact ⟨h.box.bar hb h.ne.1, h.ne, l, h1.bar hb h.ne.2, fun p hp => ⟨(h2 p hp).1, (h2 p hp).2.bar hg hb⟩, h3⟩
theorem Lets.bar {toks : List Tok} {size : Int} {i : Nat} {wr : Bool} {row opn : Value} {s : Sty} {mp : Value} {w w' : World} {rb g M : Nat} (h : Lets w rb g M) (hr : Rd toks size g w i wr row opn s mp) (hb : Bar g w w') : Lets w' rb g M := by
  obtain ⟨A, m, c, h1, h2, h3, h4, h5⟩ := hr
  exact h.bar' (h5.box.2.2 0 _ rfl) hb
set_option maxRecDepth 100000 in
theorem newreader_any (toks : List Tok) (A : Option Addr) (m c : Nat) (size : Int) (w : World) (h : Rows 4 encT w A m toks) (hc : m ≤ c) (hA : Apart w.heap.size A) :
    Calls Tryd.prog 13 #[.slice A m c, .int .i64 size] w fun e w' => ∃ rb M, e = .returned (.pointer (some ⟨w.heap.size, 0, none⟩)) ∧
      Rd toks size w.heap.size w' 0 false (.slice none 0 0) (.slice none 0 0) .none (.map (some M)) ∧ Lets w' rb w.heap.size M ∧ Below w.heap.size w w' := by
  have HR := Lib.hid h
  clear h
  go_enter Tryd.func13, Tryd.ntmps13
  go_wp2_with fail
  refine (letters_any w.heap.size _ (by simp)).mono ?_
  rintro e w1 ⟨M, rb, rfl, hl, hb⟩
  have hB : Blk (w.alloc (.cells (rcells (.slice A m c) size false (.slice none 0 0) (.slice none 0 0) .none (.map none)).toArray 51)) w.heap.size 51 (rcells (.slice A m c) size false (.slice none 0 0) (.slice none 0 0) .none (.map none)) := Blk.new w _ _ _ rfl _ rfl
  have hB1 : Blk w1 w.heap.size 51 (rcells (.slice A m c) size false (.slice none 0 0) (.slice none 0 0) .none (.map none)) := hB.on hb
  have hw1 : Below w.heap.size w w1 := Below.trans ((Below.refl w.heap.size w).alloc (Nat.le_refl _) _) (hb.mono (by simp))
  have hr : Rd toks size w.heap.size w1 0 false (.slice none 0 0) (.slice none 0 0) .none (.map none) := ⟨A, m, c, by simpa using HR.out.below hw1, hA, hc, Nat.zero_le _, hB1⟩
  have g0 := hr.lt
  have f17 := hr.frozen 17
  obtain ⟨v17, c17⟩ := hr.cell 17 (by omega)
  have HRd := Lib.hid hr
  have HL := Lib.hid hl
  have HW := Lib.hid hw1
  clear hr hl hw1 hB hB1 hb
  go_wp2_with fail
  go_ret
  exact ⟨rb, M, rfl, HRd.out.set 17 _ (fun _ => rfl), HL.out.bar HRd.out ((Bar.refl _ _).set _ _), ((Bar.refl w.heap.size w1).set 17 (.map (some M))).below (Nat.le_refl _) HW.out.size |> HW.out.trans⟩
end Go.Proofs.YtildplbdhnodjaaDoor
/- The program's package read: a side; a box, a float, or nothing that begins. -/
namespace Go.Proofs.YtildplbdhnodjaaDoor
open Go.RowKit
set_option linter.unusedVariables false
set_option linter.unusedSimpArgs false
def sideS (toks : List Tok) (i : Nat) (wr : Bool) : Int × Nat × Bool := if !wr && sgB toks i 76 then (1, i + 1, false) else (2, mustS toks i wr 82)
theorem pside_to {toks : List Tok} {size : Int} {g : Nat} {w : World} {i j : Nat} {wr b : Bool} {row opn : Value} {s : Sty} {mp : Value} {n : Int} (hv : sideS toks i wr = (n, j, b)) (h : Rd toks size g w i wr row opn s mp) :
    Calls Tryd.prog 50 #[.pointer (some ⟨g, 0, none⟩)] w fun e w' => e = .returned (.int .i64 n) ∧ Bar g w w' ∧ w'.heap.size = w.heap.size ∧ Rd toks size g w' j b row opn s mp := by
  unfold sideS at hv
  rcases hq : (!wr && sgB toks i 76) with _ | _
  · rw [hq] at hv
    injection hv with e1 hm
    subst e1
    have HM := Lib.hid (psign_to hq h)
    have HN := Lib.hid hm
    clear hq h hm
    go_enter Tryd.func50, Tryd.ntmps50
    go_wp2_with fail
    refine HM.out.mono ?_
    rintro e w' ⟨rfl, hb, hs, hr⟩
    have HB := Lib.hid hb
    have HR := Lib.hid hr
    clear hb hr
    go_wp2_with fail
    refine (must_to HN.out HR.out).mono ?_
    rintro e w2 ⟨⟨v, rfl⟩, hb2, hs2, hr2⟩
    have HB2 := Lib.hid hb2
    have HR2 := Lib.hid hr2
    clear hb2 hr2
    go_wp2_with fail
    go_ret
    exact ⟨rfl, HB.out.trans HB2.out, by omega, HR2.out⟩
  · rw [hq] at hv
    injection hv with e1 e2
    injection e2 with e2 e3
    subst e1 e2 e3
    have hwr : wr = false := by cases wr with | false => rfl | true => simp at hq
    subst hwr
    have HM := Lib.hid (psign_to hq h)
    clear hq h
    go_enter Tryd.func50, Tryd.ntmps50
    go_wp2_with fail
    refine HM.out.mono ?_
    rintro e w' ⟨rfl, hb, hs, hr⟩
    have HB := Lib.hid hb
    have HR := Lib.hid hr
    clear hb hr
    go_wp2_with fail
    go_ret
    exact ⟨rfl, HB.out, hs, HR.out⟩
theorem psign_no {toks : List Tok} {size : Int} {g : Nat} {w : World} {i : Nat} {wr : Bool} {row opn : Value} {s : Sty} {mp : Value} {c : Int} (hv : (!wr && sgB toks i c) = false) (h : Rd toks size g w i wr row opn s mp) :
    Calls Tryd.prog 24 #[.pointer (some ⟨g, 0, none⟩), .int .i32 c] w fun e w' => e = .returned (.bool false) ∧ Bar g w w' ∧ w'.heap.size = w.heap.size ∧ Rd toks size g w' i wr row opn s mp := psign_to hv h
theorem psign_yes {toks : List Tok} {size : Int} {g : Nat} {w : World} {i : Nat} {row opn : Value} {s : Sty} {mp : Value} {c : Int} (hv : sgB toks i c = true) (h : Rd toks size g w i false row opn s mp) :
    Calls Tryd.prog 24 #[.pointer (some ⟨g, 0, none⟩), .int .i32 c] w fun e w' => e = .returned (.bool true) ∧ Bar g w w' ∧ w'.heap.size = w.heap.size ∧ Rd toks size g w' (i + 1) false row opn s mp := psign_to (v := true) (by simpa using hv) h
/-- what a thing is asked by: one of four signs, or none. -/
theorem thing_none {toks : List Tok} {size : Int} {g : Nat} {w : World} {i : Nat} {row opn : Value} {s : Sty} {mp : Value} (ho : opens toks i = false) (h : Rd toks size g w i false row opn s mp) :
    Calls Tryd.prog 27 #[.pointer (some ⟨g, 0, none⟩)] w fun e w' => e = .returned .nilIface ∧ Bar g w w' ∧ Rd toks size g w' i true row opn s mp := by
  unfold opens at ho
  simp only [Bool.or_eq_false_iff] at ho
  obtain ⟨⟨⟨h1, h2⟩, h3⟩, h4⟩ := ho
  have H1 := Lib.hid h1
  have H2 := Lib.hid h2
  have H3 := Lib.hid h3
  have H4 := Lib.hid h4
  have HR := Lib.hid h
  have HB := Lib.hid (Bar.refl g w)
  clear h1 h2 h3 h4 h
  go_enter Tryd.func27, Tryd.ntmps27
  go_wp2_with fail
  refine (psign_no (by rw [H1.out]; rfl) HR.out).mono ?_
  rintro e w1 ⟨rfl, hb, hs1, hr⟩
  have HR := Lib.hid hr
  have HB := Lib.hid (HB.out.trans hb)
  clear hb hr
  go_wp2_with fail
  refine (psign_no (by rw [H2.out]; rfl) HR.out).mono ?_
  rintro e w2 ⟨rfl, hb, hs2, hr⟩
  have HR := Lib.hid hr
  have HB := Lib.hid (HB.out.trans hb)
  clear hb hr
  go_wp2_with fail
  refine (psign_no (by rw [H3.out]; rfl) HR.out).mono ?_
  rintro e w3 ⟨rfl, hb, hs3, hr⟩
  have HR := Lib.hid hr
  have HB := Lib.hid (HB.out.trans hb)
  clear hb hr
  go_wp2_with fail
  refine (psign_no (by rw [H4.out]; rfl) HR.out).mono ?_
  rintro e w4 ⟨rfl, hb, hs4, hr⟩
  have HR := Lib.hid hr
  have HB := Lib.hid (HB.out.trans hb)
  have g0 := hr.lt
  have f2 := hr.frozen 2
  obtain ⟨v2, c2⟩ := hr.cell 2 (by omega)
  clear hb hr
  go_wp2_with fail
  go_ret
  exact ⟨rfl, HB.out.set _ _, HR.out.set 2 _ (fun _ => rfl)⟩
theorem thing_box {toks : List Tok} {size : Int} {g : Nat} {w : World} {i j1 j2 : Nat} {b1 b2 : Bool} {n1 n2 : Int} {row opn : Value} {s : Sty} {mp : Value} (ho : sgB toks i 123 = true)
    (hv1 : numS toks (i + 1) false 1 maxN = (n1, j1, b1)) (hv2 : numS toks j1 b1 1 maxN = (n2, j2, b2)) (h : Rd toks size g w i false row opn s mp) :
    Calls Tryd.prog 27 #[.pointer (some ⟨g, 0, none⟩)] w fun e w' => e = .returned (.iface 103 (.agg #[.int .i64 n1, .int .i64 n2])) ∧ Bar g w w' ∧ Rd toks size g w' j2 b2 row opn s mp := by
  have H1 := Lib.hid (sgB_one ho (show (123 : Int) ≠ 91 by decide))
  have H2 := Lib.hid (sgB_one ho (show (123 : Int) ≠ 40 by decide))
  have H3 := Lib.hid ho
  have HV1 := Lib.hid hv1
  have HV2 := Lib.hid hv2
  have HR := Lib.hid h
  have HB := Lib.hid (Bar.refl g w)
  clear ho hv1 hv2 h
  go_enter Tryd.func27, Tryd.ntmps27
  go_wp2_with fail
  refine (psign_no (by rw [H1.out]; rfl) HR.out).mono ?_
  rintro e w1 ⟨rfl, hb, hs1, hr⟩
  have HR := Lib.hid hr
  have HB := Lib.hid (HB.out.trans hb)
  clear hb hr
  go_wp2_with fail
  refine (psign_no (by rw [H2.out]; rfl) HR.out).mono ?_
  rintro e w2 ⟨rfl, hb, hs2, hr⟩
  have HR := Lib.hid hr
  have HB := Lib.hid (HB.out.trans hb)
  clear hb hr
  go_wp2_with fail
  refine (psign_yes H3.out HR.out).mono ?_
  rintro e w3 ⟨rfl, hb, hs3, hr⟩
  have HR := Lib.hid (hr.bar (Bar.refl g _).drew rfl)
  have HB := Lib.hid (HB.out.trans hb).drew
  clear hb hr
  go_wp2_with fail
  go_region_held3 (fun _ => True) (trivial) (first
    | (go_at_call 49; ((with_reducible refine (plen_to HV1.out HR.out).mono ?_); rintro e w4 ⟨rfl, hb, hs4, hr⟩; have HR1 := Lib.hid hr; have HB1 := Lib.hid (HB.out.trans hb); clear hb hr))
    | (go_at_call 49; ((with_reducible refine (plen_to HV2.out HR1.out).mono ?_); rintro e w5 ⟨rfl, hb, hs5, hr⟩; have HR2 := Lib.hid hr; have HB2 := Lib.hid (HB1.out.trans hb); clear hb hr)))
  go_wp2_with fail
  go_ret
  exact ⟨rfl, HB2.out, HR2.out⟩
end Go.Proofs.YtildplbdhnodjaaDoor
/- The program's package read: a block's attributes. -/
namespace Go.Proofs.YtildplbdhnodjaaDoor
open Go.RowKit Go.ChangeMaps
set_option linter.unusedVariables false
set_option linter.unusedSimpArgs false
theorem Bar.then {g B : Nat} {w w' w'' : World} (h : Bar g w w') (hb : Below B w' w'') (hB : w.heap.size ≤ B) : Bar g w w'' :=
  ⟨hb.os.trans h.os, hb.tape.trans h.tape, hb.output.trans h.output, Nat.le_trans h.size hb.size, fun k hk hg => (hb.block k (by omega)).trans (h.block k hk hg)⟩
theorem rcells_with {s : Sty} {c : Int} (hc : c ∈ lettersB) (n : Int) (left row opn mp : Value) (size : Int) (wr : Bool) : (rcells left size wr row opn s mp).set (5 + posB c) (.int .i64 n) = rcells left size wr row opn (withB s c n) mp := by
  simp only [lettersB, List.mem_cons, List.not_mem_nil, or_false] at hc
  rcases hc with rfl | rfl | rfl | rfl | rfl | rfl | rfl | rfl | rfl | rfl | rfl | rfl <;> rfl
theorem find_sg {l : List Tok} {i : Nat} {x y u z : Int} (hx : l[i]? = some ⟨x, y, u, z⟩) (cs : List Int) : cs.find? (sgB l i) = if x = 1 ∧ y ∈ cs then some y else none := by
  have hs : ∀ c, sgB l i c = (x == 1 && y == c) := fun c => by unfold sgB; rw [hx]
  induction cs with
  | nil => simp
  | cons c cs ih =>
    rw [List.find?_cons, hs, ih]
    by_cases h1 : x = 1
    · by_cases h2 : y = c
      · subst h2; simp [h1]
      · have : (y == c) = false := by simpa using h2
        simp [h1, this, h2]
    · have : (x == 1) = false := by simpa using h1
      simp [this, h1]
theorem letterB_at {l : List Tok} {i : Nat} {x y u z : Int} (hx : l[i]? = some ⟨x, y, u, z⟩) (told : List Int) : letterB l i told = if x = 1 ∧ y ∈ lettersB then (if y ∈ told then 0 else y) else 0 := by
  unfold letterB
  rw [find_sg hx]
  by_cases h : x = 1 ∧ y ∈ lettersB
  · rw [if_pos h, if_pos h]
  · rw [if_neg h, if_neg h]
/-- what is told wrong there. -/
def AttrsBad (toks : List Tok) (i a : Nat) : Prop := Attrs toks i .plain [] (.bad a) ∨ ∃ s, Attrs toks i .plain [] (.ok s a) ∧ ∀ c, sgB toks a c = false
/-- attributes are read up to j: what holds there. -/
def AtJ (toks : List Tok) (i j : Nat) (b : Bool) (s : Sty) (zs : List Int) : Prop := (b = false → ∀ r, Attrs toks j s zs r → Attrs toks i .plain [] r) ∧ (b = true → AttrsBad toks i j)
theorem AtJ.stop {toks : List Tok} {i j : Nat} {b : Bool} {s : Sty} {zs : List Int} (h : AtJ toks i j b s zs) (h0 : b = false → letterB toks j zs = 0) : (b = false → Attrs toks i .plain [] (.ok s j)) ∧ (b = true → AttrsBad toks i j) :=
  ⟨fun e => h.1 e _ (.stop (h0 e)), h.2⟩
theorem AtJ.step {toks : List Tok} {i j : Nat} {s : Sty} {zs : List Int} (h : AtJ toks i j false s zs) {x y u z : Int} (hx : toks[j]? = some ⟨x, y, u, z⟩) (hy : y ∈ lettersB) (hn : y ∉ zs) {j1 j2 : Nat} {b1 b2 : Bool} {n : Int}
    (h1 : mustS toks j false y = (j1, b1)) (h2 : numS toks j1 b1 (limitB y).1 (limitB y).2 = (n, j2, b2)) : AtJ toks i j2 b2 (withB s y n) (zs ++ [y]) ∧ (if b2 then j ≤ j2 else j2 = j + 2) ∧ j2 ≤ toks.length := by
  have hlt := (List.getElem?_eq_some_iff.1 hx).1
  have hs : ∀ c, sgB toks j c = (x == 1 && y == c) := fun c => by unfold sgB; rw [hx]
  have hl := letterB_at hx zs
  have hy0 : y ≠ 0 := by intro e; subst e; revert hy; decide
  by_cases hk : x = 1
  · have hly : letterB toks j zs = y := by rw [hl, if_pos ⟨hk, hy⟩, if_neg hn]
    have hm : mustS toks j false y = (j + 1, false) := by unfold mustS; rw [hs]; simp [hk]
    rw [hm] at h1
    cases h1
    by_cases hnm : nmB toks (j + 1) (limitB y).1 (limitB y).2 = true
    · have : numS toks (j + 1) false (limitB y).1 (limitB y).2 = (nAt toks (j + 1), j + 1 + 1, false) := by unfold numS; simp [hnm]
      rw [this] at h2
      cases h2
      refine ⟨⟨fun _ r hr => h.1 rfl r (.step (by rw [hly]; exact hy0) (by rw [hly]; exact hnm) (by rw [hly]; exact hr)), fun e => by cases e⟩, rfl, ?_⟩
      exact nmB_lt hnm
    · have hnm : nmB toks (j + 1) (limitB y).1 (limitB y).2 = false := by simpa using hnm
      have : numS toks (j + 1) false (limitB y).1 (limitB y).2 = (0, j + 1, true) := by unfold numS; simp [hnm]
      rw [this] at h2
      cases h2
      refine ⟨⟨fun e => (by cases e), fun _ => .inl (h.1 rfl _ (.bad (by rw [hly]; exact hy0) (by rw [hly]; exact hnm)))⟩, ?_, hlt⟩
      simp
  · have hk' : (x == 1) = false := by simpa using hk
    have hm : mustS toks j false y = (j, true) := by unfold mustS; rw [hs]; simp [hk']
    rw [hm] at h1
    cases h1
    have : numS toks j true (limitB y).1 (limitB y).2 = (0, j, true) := by unfold numS; simp
    rw [this] at h2
    cases h2
    refine ⟨⟨fun e => (by cases e), fun _ => .inr ⟨s, h.1 rfl _ (.stop (by rw [hl, if_neg (fun q => hk q.1)])), fun c => by rw [hs, hk']; rfl⟩⟩, ?_, by omega⟩
    simp
theorem info_i32 : (Tryd.prog.info? 21).map (fun i => (i.zero, i.size, i.bytes)) = some (some (.int .i32 0), 1, 4) := by kernel_rfl
end Go.Proofs.YtildplbdhnodjaaDoor
/- The program's package read: a float. -/
namespace Go.Proofs.YtildplbdhnodjaaDoor
open Go.RowKit
set_option linter.unusedVariables false
set_option linter.unusedSimpArgs false
theorem thing_float {toks : List Tok} {size : Int} {g : Nat} {w : World} {i j0 j1 j2 : Nat} {b0 b1 b2 : Bool} {n0 n1 n2 : Int} {row opn : Value} {s : Sty} {mp : Value} (ho : sgB toks i 60 = true)
    (hv0 : sideS toks (i + 1) false = (n0, j0, b0)) (hv1 : numS toks j0 b0 1 maxN = (n1, j1, b1)) (hv2 : numS toks j1 b1 1 maxN = (n2, j2, b2)) (h : Rd toks size g w i false row opn s mp) :
    Calls Tryd.prog 27 #[.pointer (some ⟨g, 0, none⟩)] w fun e w' => e = .returned (.iface 105 (.agg #[.int .i64 n0, .int .i64 n1, .int .i64 n2])) ∧ Bar g w w' ∧ Rd toks size g w' j2 b2 row opn s mp := by
  have H1 := Lib.hid (sgB_one ho (show (60 : Int) ≠ 91 by decide))
  have H2 := Lib.hid (sgB_one ho (show (60 : Int) ≠ 40 by decide))
  have H3 := Lib.hid (sgB_one ho (show (60 : Int) ≠ 123 by decide))
  have H4 := Lib.hid ho
  have HV0 := Lib.hid hv0
  have HV1 := Lib.hid hv1
  have HV2 := Lib.hid hv2
  have HR := Lib.hid h
  have HB := Lib.hid (Bar.refl g w)
  clear ho hv0 hv1 hv2 h
  go_enter Tryd.func27, Tryd.ntmps27
  go_wp2_with fail
  refine (psign_no (by rw [H1.out]; rfl) HR.out).mono ?_
  rintro e w1 ⟨rfl, hb, hs1, hr⟩
  have HR := Lib.hid hr
  have HB := Lib.hid (HB.out.trans hb)
  clear hb hr
  go_wp2_with fail
  refine (psign_no (by rw [H2.out]; rfl) HR.out).mono ?_
  rintro e w2 ⟨rfl, hb, hs2, hr⟩
  have HR := Lib.hid hr
  have HB := Lib.hid (HB.out.trans hb)
  clear hb hr
  go_wp2_with fail
  refine (psign_no (by rw [H3.out]; rfl) HR.out).mono ?_
  rintro e w3 ⟨rfl, hb, hs3, hr⟩
  have HR := Lib.hid hr
  have HB := Lib.hid (HB.out.trans hb)
  clear hb hr
  go_wp2_with fail
  refine (psign_yes H4.out HR.out).mono ?_
  rintro e w4 ⟨rfl, hb, hs4, hr⟩
  have HR := Lib.hid (hr.bar (Bar.refl g _).drew rfl)
  have HB := Lib.hid (HB.out.trans hb).drew
  clear hb hr
  go_wp2_with fail
  go_region_held3 (fun _ => True) (trivial) (first
    | (go_at_call 50; ((with_reducible refine (pside_to HV0.out HR.out).mono ?_); rintro e w5 ⟨rfl, hb, hs5, hr⟩; have HR0 := Lib.hid hr; have HB0 := Lib.hid (HB.out.trans hb); clear hb hr))
    | (go_at_call 49; ((with_reducible refine (plen_to HV1.out HR0.out).mono ?_); rintro e w6 ⟨rfl, hb, hs6, hr⟩; have HR1 := Lib.hid hr; have HB1 := Lib.hid (HB0.out.trans hb); clear hb hr))
    | (go_at_call 49; ((with_reducible refine (plen_to HV2.out HR1.out).mono ?_); rintro e w7 ⟨rfl, hb, hs7, hr⟩; have HR2 := Lib.hid hr; have HB2 := Lib.hid (HB1.out.trans hb); clear hb hr)))
  go_wp2_with fail
  go_ret
  exact ⟨rfl, HB2.out, HR2.out⟩
end Go.Proofs.YtildplbdhnodjaaDoor
