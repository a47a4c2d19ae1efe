import Derived.Test.YtildplbdhnodjaaDoorJD01
import Derived.Test.YtildplbdhnodjaaDoorJD18
import Derived.Test.YtildplbdhnodjaaDoorJD21
import Derived.Test.YtildplbdhnodjaaDoorJD19
import Derived.Test.YtildplbdhnodjaaDoorJD11
import Derived.Test.YtildplbdhnodjaaDoorJD20
import Derived.Deep.LoopGhost
import Derived.BigRegion
import Derived.Test.YtildplbdhnodjaaDoorJD09
import Derived.Test.YtildplbdhnodjaaDoorJD00
/- What the program reads of a thing, and what the document's words say of it. Nothing of the program stands here. -/
namespace Go.Proofs.YtildplbdhnodjaaDoor
open Go
set_option linter.unusedVariables false
set_option linter.unusedSimpArgs false
theorem numS_cases {toks : List Tok} {j j' : Nat} {b' : Bool} {lo hi n : Int} (h : numS toks j false lo hi = (n, j', b')) : (b' = false ∧ nmB toks j lo hi = true ∧ n = nAt toks j ∧ j' = j + 1) ∨ (b' = true ∧ nmB toks j lo hi = false ∧ j' = j) := by
  unfold numS at h
  rcases hq : nmB toks j lo hi with _ | _
  · rw [hq] at h; simp at h; obtain ⟨rfl, rfl, rfl⟩ := h; exact .inr ⟨rfl, rfl, rfl⟩
  · rw [hq] at h; simp at h; obtain ⟨rfl, rfl, rfl⟩ := h; exact .inl ⟨rfl, rfl, rfl, rfl⟩
theorem numS_bad {toks : List Tok} {j j' : Nat} {b' : Bool} {lo hi n : Int} (h : numS toks j true lo hi = (n, j', b')) : b' = true ∧ j' = j := by
  unfold numS at h; simp at h; exact ⟨by simp [h.2.2], h.2.1.symm⟩
theorem mustS_cases {toks : List Tok} {j j' : Nat} {b' : Bool} {c : Int} (h : mustS toks j false c = (j', b')) : (b' = false ∧ sgB toks j c = true ∧ j' = j + 1) ∨ (b' = true ∧ sgB toks j c = false ∧ j' = j) := by
  unfold mustS at h
  rcases hq : sgB toks j c with _ | _
  · rw [hq] at h; simp at h; obtain ⟨rfl, rfl⟩ := h; exact .inr ⟨rfl, rfl, rfl⟩
  · rw [hq] at h; simp at h; obtain ⟨rfl, rfl⟩ := h; exact .inl ⟨rfl, rfl, rfl⟩
theorem mustS_bad {toks : List Tok} {j j' : Nat} {b' : Bool} {c : Int} (h : mustS toks j true c = (j', b')) : b' = true ∧ j' = j := by
  unfold mustS at h; simp at h; exact ⟨by simp [h.2], h.1.symm⟩
/-- one thing is read, or what is wrong. -/
def One1 (toks : List Tok) (i : Nat) (x : Nd) (j : Nat) (b : Bool) : Prop := (b = false → Parse toks false i [] (.ok [x] j)) ∧ (b = true → Parse toks false i [] (.bad j))
theorem boxS {toks : List Tok} {i j1 j2 j : Nat} {b1 b2 b : Bool} {n1 n2 : Int} (kind side e : Int) (h1 : numS toks i false 1 maxN = (n1, j1, b1)) (h2 : numS toks j1 b1 1 maxN = (n2, j2, b2)) (h3 : mustS toks j2 b2 e = (j, b)) :
    (b = false → boxR toks i kind side e = .ok [box_ kind side n1 n2] j) ∧ (b = true → boxR toks i kind side e = .bad j) := by
  unfold boxR
  rcases numS_cases h1 with ⟨rfl, q1, rfl, rfl⟩ | ⟨rfl, q1, rfl⟩
  · rcases numS_cases h2 with ⟨rfl, q2, rfl, rfl⟩ | ⟨rfl, q2, rfl⟩
    · rcases mustS_cases h3 with ⟨rfl, q3, rfl⟩ | ⟨rfl, q3, rfl⟩
      · simp [q1, q2, q3]
      · simp [q1, q2, q3]
    · obtain ⟨rfl, rfl⟩ := mustS_bad h3
      simp [q1, q2]
  · obtain ⟨rfl, rfl⟩ := numS_bad h2
    obtain ⟨rfl, rfl⟩ := mustS_bad h3
    simp [q1]
theorem one_box {toks : List Tok} {i j1 j2 j : Nat} {b1 b2 b : Bool} {n1 n2 : Int} (h0 : sgB toks i 123 = true) (h1 : numS toks (i + 1) false 1 maxN = (n1, j1, b1)) (h2 : numS toks j1 b1 1 maxN = (n2, j2, b2)) (h3 : mustS toks j2 b2 125 = (j, b)) : One1 toks i (box_ 3 0 n1 n2) j b := by
  have h := boxS 3 0 125 h1 h2 h3
  exact ⟨fun e => by rw [← h.1 e]; exact .mono h0, fun e => by rw [← h.2 e]; exact .mono h0⟩
theorem one_float {toks : List Tok} {i j0 j1 j2 j : Nat} {b0 b1 b2 b : Bool} {n0 n1 n2 : Int} (h : sgB toks i 60 = true) (h0 : sideS toks (i + 1) false = (n0, j0, b0)) (h1 : numS toks j0 b0 1 maxN = (n1, j1, b1)) (h2 : numS toks j1 b1 1 maxN = (n2, j2, b2)) (h3 : mustS toks j2 b2 62 = (j, b)) : One1 toks i (box_ 4 n0 n1 n2) j b := by
  unfold sideS at h0
  rcases hl : sgB toks (i + 1) 76 with _ | _
  · rw [hl] at h0
    simp at h0
    obtain ⟨rfl, h0⟩ := h0
    rcases mustS_cases h0 with ⟨rfl, q, rfl⟩ | ⟨rfl, q, rfl⟩
    · have k := boxS 4 2 62 h1 h2 h3
      exact ⟨fun e => by rw [← k.1 e]; exact .right h q, fun e => by rw [← k.2 e]; exact .right h q⟩
    · obtain ⟨rfl, rfl⟩ := numS_bad h1
      obtain ⟨rfl, rfl⟩ := numS_bad h2
      obtain ⟨rfl, rfl⟩ := mustS_bad h3
      exact ⟨fun e => (by cases e), fun _ => .side h hl q⟩
  · rw [hl] at h0
    simp at h0
    obtain ⟨rfl, rfl, rfl⟩ := h0
    have k := boxS 4 1 62 h1 h2 h3
    exact ⟨fun e => by rw [← k.1 e]; exact .left h hl, fun e => by rw [← k.2 e]; exact .left h hl⟩
theorem kd_sg {toks : List Tok} {j : Nat} (h : kdB toks j = true) (c : Int) : sgB toks j c = false := by
  unfold kdB at h
  unfold sgB
  rcases ht : toks[j]? with _ | t
  · rfl
  · rw [ht] at h
    simp at h
    simp [h]
theorem kd_nm {toks : List Tok} {j : Nat} (h : kdB toks j = false) (lo hi : Int) : nmB toks j lo hi = false := by
  unfold kdB at h
  unfold nmB
  rcases ht : toks[j]? with _ | t
  · rfl
  · rw [ht] at h
    simp at h
    simp [h]
theorem WordsS.words {toks : List Tok} {j jr : Nat} {b br : Bool} {ws wr : List Int} (h : WordsS toks j b ws jr br wr) : (b = true → br = true ∧ jr = j) ∧ (b = false → (br = false → Words toks j ws wr jr) ∧ (br = true → (∃ r, Words toks j ws r jr) ∧ ∀ c, sgB toks jr c = false)) := by
  induction h with
  | @stop j b ws h =>
    refine ⟨fun e => ⟨e, rfl⟩, fun e => ⟨fun _ => ?_, fun e' => (by rw [e] at e'; cases e')⟩⟩
    subst e
    exact .stop (kd_nm (by simpa using h) _ _)
  | @step j b ws n j' b' jr br wr h1 h2 h3 ih =>
    have hb : b = false := by cases b with | false => rfl | true => simp at h1
    subst hb
    have hk : kdB toks j = true := by simpa using h1
    refine ⟨fun e => (by cases e), fun _ => ?_⟩
    rcases numS_cases h2 with ⟨rfl, q, rfl, rfl⟩ | ⟨rfl, q, rfl⟩
    · obtain ⟨i1, i2⟩ := ih.2 rfl
      refine ⟨fun e => .step q (i1 e), fun e => ?_⟩
      obtain ⟨⟨r, hr⟩, hs⟩ := i2 e
      exact ⟨⟨r, .step q hr⟩, hs⟩
    · obtain ⟨rfl, rfl⟩ := ih.1 rfl
      exact ⟨fun e => (by cases e), fun _ => ⟨⟨ws, .stop q⟩, kd_sg hk⟩⟩
theorem WordsS.ne {toks : List Tok} {j jr : Nat} {b br : Bool} {ws wr : List Int} (h : WordsS toks j b ws jr br wr) (hw : ws ≠ []) : wr ≠ [] := by
  induction h with
  | stop _ => exact hw
  | step _ _ _ ih => exact ih (by simp)
theorem one_text {toks : List Tok} {i j1 j2 j3 j4 j : Nat} {b1 b2 b3 b4 b : Bool} {n1 n2 n3 : Int} {ws : List Int} (h0 : sgB toks i 40 = true) (h1 : numS toks (i + 1) false 1 maxN = (n1, j1, b1)) (h2 : numS toks j1 b1 0 maxN = (n2, j2, b2)) (h3 : numS toks j2 b2 1 maxN = (n3, j3, b3)) (h4 : WordsS toks j3 b3 [n3] j4 b4 ws) (h5 : mustS toks j4 b4 41 = (j, b)) :
    One1 toks i (txt n1 n2 ws) j b := by
  rcases numS_cases h1 with ⟨rfl, q1, rfl, rfl⟩ | ⟨rfl, q1, rfl⟩
  · rcases numS_cases h2 with ⟨rfl, q2, rfl, rfl⟩ | ⟨rfl, q2, rfl⟩
    · rcases numS_cases h3 with ⟨rfl, q3, rfl, rfl⟩ | ⟨rfl, q3, rfl⟩
      · obtain ⟨k1, k2⟩ := h4.words.2 rfl
        have hne := h4.ne (by simp)
        cases b4 with
        | false =>
          have hw : Words toks (i + 3) [] ws j4 := .step q3 (k1 rfl)
          rcases mustS_cases h5 with ⟨rfl, q5, rfl⟩ | ⟨rfl, q5, rfl⟩
          · exact ⟨fun _ => .text h0 q1 q2 hw hne q5, fun e => by cases e⟩
          · exact ⟨fun e => (by cases e), fun _ => .textW h0 q1 q2 hw (.inr q5)⟩
        | true =>
          obtain ⟨⟨r, hr⟩, hs⟩ := k2 rfl
          obtain ⟨rfl, rfl⟩ := mustS_bad h5
          exact ⟨fun e => (by cases e), fun _ => .textW h0 q1 q2 (.step q3 hr) (.inr (hs _))⟩
      · obtain ⟨rfl, rfl⟩ := h4.words.1 rfl
        obtain ⟨rfl, rfl⟩ := mustS_bad h5
        exact ⟨fun e => (by cases e), fun _ => .textW h0 q1 q2 (.stop q3) (.inl rfl)⟩
    · obtain ⟨rfl, rfl⟩ := numS_bad h3
      obtain ⟨rfl, rfl⟩ := h4.words.1 rfl
      obtain ⟨rfl, rfl⟩ := mustS_bad h5
      exact ⟨fun e => (by cases e), fun _ => .textS h0 q1 q2⟩
  · obtain ⟨rfl, rfl⟩ := numS_bad h2
    obtain ⟨rfl, rfl⟩ := numS_bad h3
    obtain ⟨rfl, rfl⟩ := h4.words.1 rfl
    obtain ⟨rfl, rfl⟩ := mustS_bad h5
    exact ⟨fun e => (by cases e), fun _ => .textL h0 q1⟩
theorem block_bad {toks : List Tok} {i j : Nat} (h0 : sgB toks i 91 = true) (h : AttrsBad toks (i + 1) j) : Parse toks false i [] (.bad j) := by
  rcases h with h | ⟨s, h, hs⟩
  · exact .blockA h0 h
  · refine .blockE (inner := []) h0 h (.stop ?_) (hs _)
    unfold opens
    simp [hs]
/-- what holds while the machine runs, and where it went wrong. -/
def Runs (toks : List Tok) (fs : List Fr) (i : Nat) (cur : List Nd) : Prop := ∀ r, Cont toks fs i cur r → Parse toks true 0 [] r
theorem Runs.one {toks : List Tok} {fs : List Fr} {i j : Nat} {cur : List Nd} {x : Nd} (h : Runs toks fs i cur) (ho : opens toks i = true) (h1 : Parse toks false i [] (.ok [x] j)) : Runs toks fs j (cur ++ [x]) := fun r hr => h r (.one ho h1 hr)
theorem Runs.enter {toks : List Tok} {fs : List Fr} {i j : Nat} {cur : List Nd} {s : Sty} (h : Runs toks fs i cur) (h0 : sgB toks i 91 = true) (h1 : Attrs toks (i + 1) .plain [] (.ok s j)) : Runs toks (⟨s, cur⟩ :: fs) j [] := fun r hr => h r (.enter h0 h1 hr)
theorem Runs.leave {toks : List Tok} {f : Fr} {fs : List Fr} {i : Nat} {cur : List Nd} (h : Runs toks (f :: fs) i cur) (h0 : sgB toks i 93 = true) : Runs toks fs (i + 1) (f.pre ++ (blk f.sty cur :: cur)) := fun r hr => h r (.leave h0 hr)
theorem one_gt {toks : List Tok} {i j : Nat} {b : Bool} {x : Nd} (h : One1 toks i x j b) : i < j ∧ (i ≤ toks.length → j ≤ toks.length) := by
  cases b with
  | false => have := (h.1 rfl).le; exact ⟨this.2.2 rfl, this.2.1⟩
  | true => have := (h.2 rfl).le; exact ⟨this.2.2 rfl, this.2.1⟩
end Go.Proofs.YtildplbdhnodjaaDoor
/- The program's package read: a block's beginning, a text. -/
namespace Go.Proofs.YtildplbdhnodjaaDoor
open Go.RowKit
set_option linter.unusedVariables false
set_option linter.unusedSimpArgs false
theorem thing_block {toks : List Tok} {size : Int} {g rb M : Nat} {w : World} {i : Nat} {row opn : Value} {s : Sty} (ho : sgB toks i 91 = true) (hl : Lets w rb g M) (h : Rd toks size g w i false row opn s (.map (some M))) (hlen : toks.length ≤ 900000) :
    Calls Tryd.prog 27 #[.pointer (some ⟨g, 0, none⟩)] w fun e w' => ∃ s' j b, e = .returned (.iface 72 (.agg (encS12 s').toArray)) ∧ Bar g w w' ∧ Rd toks size g w' j b row opn s' (.map (some M)) ∧ (b = false → Attrs toks (i + 1) .plain [] (.ok s' j)) ∧ (b = true → AttrsBad toks (i + 1) j) := by
  have H1 := Lib.hid ho
  have HL := Lib.hid hl
  have HR := Lib.hid h
  have HR0 := Lib.hid h
  clear ho h hl
  go_enter Tryd.func27, Tryd.ntmps27
  go_wp2_with fail
  refine (psign_yes H1.out HR.out).mono ?_
  rintro e w1 ⟨rfl, hb, hs1, hr⟩
  have HR := Lib.hid hr
  have HB := Lib.hid hb
  have HL1 := Lib.hid (HL.out.bar HR0.out hb)
  clear hb hr
  go_wp2_with fail
  refine (block_any HL1.out HR.out hlen).mono ?_
  rintro e w2 ⟨s', j, b, rfl, hb, hr, hp⟩
  have HR2 := Lib.hid hr
  have HB2 := Lib.hid (HB.out.trans hb)
  have HP := Lib.hid hp
  clear hb hr hp
  go_wp2_with fail
  go_ret
  exact ⟨s', j, b, rfl, HB2.out, HR2.out, HP.out⟩
theorem thing_text {toks : List Tok} {size : Int} {g : Nat} {w : World} {i j1 j2 j3 : Nat} {b1 b2 b3 : Bool} {n1 n2 n3 : Int} {row opn : Value} {s : Sty} {mp : Value} (ho : sgB toks i 40 = true)
    (hv1 : numS toks (i + 1) false 1 maxN = (n1, j1, b1)) (hv2 : numS toks j1 b1 0 maxN = (n2, j2, b2)) (hv3 : numS toks j2 b2 1 maxN = (n3, j3, b3)) (h : Rd toks size g w i false row opn s mp) (hlen : toks.length ≤ 900000) :
    Calls Tryd.prog 27 #[.pointer (some ⟨g, 0, none⟩)] w fun e w' => ∃ A m c j b ws, e = .returned (.iface 100 (.agg #[.int .i64 n1, .int .i64 n2, .slice A m c])) ∧ WordsS toks j3 b3 [n3] j b ws ∧
      w'.ownsRow w.heap.size 3 1 (.slice A m c) m (ws.map (Value.int .i64)) ∧ Bar g w w' ∧ Rd toks size g w' j b row opn s mp := by
  have H1 := Lib.hid (sgB_one ho (show (40 : Int) ≠ 91 by decide))
  have H2 := Lib.hid ho
  have HV1 := Lib.hid hv1
  have HV2 := Lib.hid hv2
  have HV3 := Lib.hid hv3
  have HR := Lib.hid h
  clear ho h hv1 hv2 hv3
  go_enter Tryd.func27, Tryd.ntmps27
  go_wp2_with fail
  refine (psign_no (by rw [H1.out]; rfl) HR.out).mono ?_
  rintro e w1 ⟨rfl, hb, hs1, hr⟩
  have HR := Lib.hid hr
  have HB := Lib.hid hb
  clear hb hr
  go_wp2_with fail
  refine (psign_yes H2.out HR.out).mono ?_
  rintro e w2 ⟨rfl, hb, hs2, hr⟩
  have HR := Lib.hid hr
  have HB := Lib.hid (HB.out.trans hb)
  clear hb hr
  go_wp2_with fail
  refine (ptext_to HV1.out HV2.out HV3.out HR.out hlen).mono ?_
  rintro e w3 ⟨A, m, c, j, b, ws, rfl, hws, ho, hb, hr⟩
  have HR2 := Lib.hid hr
  have HB2 := Lib.hid (HB.out.trans hb)
  have HO := Lib.hid (show w3.ownsRow w.heap.size 3 1 (.slice A m c) m (ws.map (Value.int .i64)) by rw [hs2, hs1] at ho; exact ho)
  have HW := Lib.hid hws
  clear hb hr ho hws
  go_wp2_with fail
  go_ret
  exact ⟨A, m, c, j, b, ws, rfl, HW.out, HO.out, HB2.out, HR2.out⟩
end Go.Proofs.YtildplbdhnodjaaDoor
/- The program's package valid: the row of what is open. -/
namespace Go.Proofs.YtildplbdhnodjaaDoor
open Go.RowKit
set_option linter.unusedVariables false
set_option linter.unusedSimpArgs false
def cntL (s : Sm) (A : Option Addr) (k c : Nat) : List Value := [.int .i64 s.depth, .int .i64 s.pieces, .int .i64 s.nodes, .int .i64 s.heights, .slice A k c]
/-- what has been counted lies in block D; what is open in a row of the call's own. -/
structure Cnt (base D : Nat) (w : World) (s : Sm) (A : Option Addr) (k c : Nat) (es : List Int) : Prop where
  blk : Blk w D 53 (cntL s A k c)
  row : w.ownsRow base 3 1 (.slice A k c) k (es.map (Value.int .i64))
theorem Cnt.len {base D : Nat} {w : World} {s : Sm} {A : Option Addr} {k c : Nat} {es : List Int} (h : Cnt base D w s A k c es) : es.length = k := by
  have := h.row.1
  simpa using this
theorem Cnt.ints {base D : Nat} {w : World} {s : Sm} {A : Option Addr} {k c : Nat} {es : List Int} (h : Cnt base D w s A k c es) : Ints w A k es := (ownsRow_cells h.row).ints
theorem Cnt.on {base D : Nat} {w w' : World} {s : Sm} {A : Option Addr} {k c : Nat} {es : List Int} (h : Cnt base D w s A k c es) (hb : On w w') : Cnt base D w' s A k c es := ⟨h.blk.on hb, owns_below h.row hb⟩
theorem Cnt.cap {base D : Nat} {w : World} {s : Sm} {A : Option Addr} {k c : Nat} {es : List Int} (h : Cnt base D w s A k c es) : k ≤ c ∧ c ≤ 9223372036854775807 := by
  rcases h.row.2 with ⟨h1, h2⟩ | ⟨g, cap, cur, h1, _, _, h2, h3, _⟩
  · injection h1 with _ h1 h3; omega
  · injection h1 with _ _ h1
    unfold maxLen at h3
    omega
/-- only block D has turned. -/
structure OnlyAt (D : Nat) (w w' : World) : Prop where
  below : Below D w w'
  size : w'.heap.size = w.heap.size
  block : ∀ k, k ≠ D → w'.heap[k]? = w.heap[k]?
theorem OnlyAt.refl (D : Nat) (w : World) : OnlyAt D w w := ⟨Below.refl _ _, rfl, fun _ _ => rfl⟩
theorem OnlyAt.drewN {D : Nat} {w w' : World} (h : OnlyAt D w w') (n : Nat) : OnlyAt D w (w'.drewN n) := ⟨below_drewN h.below n, h.size, h.block⟩
theorem OnlyAt.drew {D : Nat} {w w' : World} (h : OnlyAt D w w') : OnlyAt D w w'.drew := ⟨h.below.drew, h.size, h.block⟩
theorem OnlyAt.set {D : Nat} {w w' : World} (h : OnlyAt D w w') (j : Nat) (v : Value) : OnlyAt D w (w'.setCell ⟨D, j, none⟩ v) :=
  ⟨h.below.setCell (Nat.le_refl _) v, by simp [h.size], fun k hk => (Below.heap_setCell _ _ _ _ hk).trans (h.block k hk)⟩
theorem OnlyAt.blk {D g : Nat} {w w' : World} {t : TypeId} {vs : List Value} (h : OnlyAt D w w') (hg : g ≠ D) (hb : Blk w g t vs) : Blk w' g t vs := (h.block g hg).trans hb
theorem owns_only {D base : Nat} {w w' : World} {e t : TypeId} {size : Nat} {v : Value} {n : Nat} {xs vs : List Value} (h : w.ownsRow base e size v n xs) (ho : OnlyAt D w w') (hD : Blk w D t vs) (ht : e ≠ t) : w'.ownsRow base e size v n xs := by
  refine ⟨h.1, ?_⟩
  rcases h.2 with h2 | ⟨g, cap, cur, h1, h2, h3, h4⟩
  · exact .inl h2
  · refine .inr ⟨g, cap, cur, h1, h2, (ho.block g (fun e => ?_)).trans h3, h4⟩
    subst e
    rw [show w.heap[g]? = _ from hD] at h3
    injection h3 with h3
    injection h3 with _ h3 _
    exact ht h3.symm
theorem owns_take {base : Nat} {w : World} {e : TypeId} {A : Option Addr} {n c : Nat} {xs : List Value} (h : w.ownsRow base e 1 (.slice A n c) n xs) {k : Nat} (hk : k ≤ n) : w.ownsRow base e 1 (.slice A k c) k (xs.take k) := by
  have hl := h.1
  refine ⟨by rw [List.length_take]; omega, ?_⟩
  rcases h.2 with ⟨h1, h2⟩ | ⟨g, cap, cur, h1, h2, h3, h4, h5, h6, h7⟩
  · injection h1 with h1 _ h3
    subst h1 h3
    obtain rfl : k = 0 := by omega
    exact .inl ⟨rfl, rfl⟩
  · injection h1 with h1 _ h8
    subst h1 h8
    refine .inr ⟨g, c, cur, rfl, h2, h3, by omega, h5, h6, ?_⟩
    rw [← h7, List.take_take]
    congr 1
    omega
theorem Cnt.below {base D : Nat} {w w' : World} {s : Sm} {A : Option Addr} {k c : Nat} {es : List Int} (h : Cnt base D w s A k c es) (hb : Below w.heap.size w w') : Cnt base D w' s A k c es := h.on hb
theorem pend_any (base D : Nat) (w : World) (s : Sm) (A : Option Addr) (k c : Nat) (es : List Int) (z : Int) (h : Cnt base D w s A (k + 1) c es) (hz : es[k]? = some z) : Calls Tryd.prog 31 #[.pointer (some ⟨D, 0, none⟩)] w fun e w' => e = .returned (.int .i64 z) ∧ ∃ q, w' = w.drewN q := by
  have hI := h.ints
  obtain ⟨b1, o1, rfl, hc1⟩ := hI.at_ (Nat.lt_succ_self k)
  rw [show es[k]?.getD 0 = z by rw [hz]; rfl] at hc1
  have c4 := h.blk.box.2.2 4 _ rfl
  have hcap := h.cap
  have hk : k + 1 ≤ 9223372036854775807 := by omega
  clear h hI hz hcap
  go_enter Tryd.func31, Tryd.ntmps31
  go_wp2_with fail
  go_quiet (fail)
  go_wp2_with fail
  go_ret
  exact ⟨rfl, _, rfl⟩
theorem pend_to {base D : Nat} {w : World} {s : Sm} {A : Option Addr} {k c : Nat} {es : List Int} {z : Int} (h : Cnt base D w s A (k + 1) c es) (hz : es[k]? = some z) : Calls Tryd.prog 31 #[.pointer (some ⟨D, 0, none⟩)] w fun e w' => e = .returned (.int .i64 z) ∧ ∃ q, w' = w.drewN q := pend_any base D w s A k c es z h hz
theorem Cnt.drewN {base D : Nat} {w : World} {s : Sm} {A : Option Addr} {k c : Nat} {es : List Int} (h : Cnt base D w s A k c es) (q : Nat) : Cnt base D (w.drewN q) s A k c es := h.on (below_drewN (Below.refl _ _) q)
set_option maxHeartbeats 4000000 in
theorem pleave_any (base D : Nat) (w : World) (s : Sm) (A : Option Addr) (c : Nat) (ks : List Int) (i z : Int) (m : Nat) (h : Cnt base D w s A (ks.length + m) c (ks ++ List.replicate m i)) (hz : ks.getLast? = some z) (hne : z ≠ i) :
    Calls Tryd.prog 29 #[.pointer (some ⟨D, 0, none⟩), .int .i64 i] w fun e w' => e = .returned (.tuple #[]) ∧ Cnt base D w' s A ks.length c ks ∧ OnlyAt D w w' := by
  have H := Lib.hid h
  have HZ := Lib.hid hz
  have HN := Lib.hid hne
  clear h hz hne
  go_enter Tryd.func29, Tryd.ntmps29
  go_wp2_with fail
  go_loopg [] m (fun k wr => k ≤ m ∧ Cnt base D wr s A (ks.length + k) c (ks ++ List.replicate k i) ∧ OnlyAt D w wr)
  case atStart => exact ⟨Nat.le_refl _, H.out, OnlyAt.refl _ _⟩
  case round =>
    obtain ⟨hk, hC, hO⟩ := hrel
    have HC := Lib.hid hC
    have HO := Lib.hid hO
    clear hC hO
    cases gk with
    | zero =>
      obtain ⟨j, hj⟩ : ∃ j, ks.length = j + 1 := ⟨ks.length - 1, by
        have : ks ≠ [] := fun e => by rw [e] at HZ; cases HZ.out
        have := List.length_pos_iff.2 this
        omega⟩
      have hC := HC.out
      simp only [Nat.add_zero, List.replicate_zero, List.append_nil] at hC
      have HC1 := Lib.hid hC
      have hC2 : Cnt base D wr s A (j + 1) c ks := by rw [← hj]; exact hC
      have hz2 : ks[j]? = some z := by rw [← HZ.out, List.getLast?_eq_getElem?, hj]; rfl
      have HC2 := Lib.hid hC2
      have HZ2 := Lib.hid hz2
      have hzi : (z == i) = false := by simpa using HN.out
      clear hC hC2 hz2 hj
      go_wp2_with fail
      refine (pend_to HC2.out HZ2.out).mono ?_
      rintro e w1 ⟨rfl, q, rfl⟩
      go_wp2_with fail
      go_returns
      exact ⟨rfl, HC1.out.drewN q, HO.out.drewN q⟩
    | succ g =>
      obtain ⟨r, hr⟩ : ∃ r, ks.length + g = r := ⟨_, rfl⟩
      have hC2 : Cnt base D wr s A (r + 1) c (ks ++ List.replicate (g + 1) i) := by rw [← hr]; exact HC.out
      have hz2 : (ks ++ List.replicate (g + 1) i)[r]? = some i := by
        rw [List.getElem?_append_right (by omega), List.getElem?_replicate]
        rw [if_pos (by omega)]
      have HC2 := Lib.hid hC2
      have HZ2 := Lib.hid hz2
      have HR := Lib.hid hr
      clear hC2 hz2 hr
      go_wp2_with fail
      refine (pend_to HC2.out HZ2.out).mono ?_
      rintro e w1 ⟨rfl, q, rfl⟩
      have hC3 := HC2.out.drewN q
      have hO3 := HO.out.drewN q
      generalize wr.drewN q = V at hC3 hO3
      have c4 := hC3.blk.box.2.2 4 _ rfl
      have f4 := hC3.blk.box.2.1 4
      have hcap := hC3.cap
      have hlt := hC3.blk.box.1
      obtain ⟨hc1, hc2⟩ := hcap
      have HC3 := Lib.hid hC3
      have HO3 := Lib.hid hO3
      clear hC3 hO3
      go_wp2_with fail
      go_region
      go_wp2_with fail
      go_roundg g
      case rel =>
        have hO4 : OnlyAt D V (V.setCell ⟨D, 4, none⟩ (.slice A r c)).drew := ((OnlyAt.refl D V).set 4 _).drew
        refine ⟨by omega, ⟨?_, ?_⟩, (HO3.out.set 4 _).drew⟩
        · rw [HR.out]
          exact (HC3.out.blk.set 4 (.slice A r c)).drew
        · have h1 := owns_take HC3.out.row (Nat.le_succ r)
          have h2 := owns_only h1 hO4 HC3.out.blk (by decide)
          have e : ((ks ++ List.replicate (g + 1) i).map (Value.int .i64)).take r = (ks ++ List.replicate g i).map (Value.int .i64) := by
            rw [← List.map_take]
            congr 1
            rw [← HR.out, List.take_length_add_append, List.take_replicate]
            congr 2
            omega
          rw [e] at h2
          rw [HR.out]
          exact h2
      case measure => omega
end Go.Proofs.YtildplbdhnodjaaDoor
/- The program's package read: the row of nodes and the row of open blocks, in memory. -/
namespace Go.Proofs.YtildplbdhnodjaaDoor
open Go.RowKit
set_option linter.unusedVariables false
set_option linter.unusedSimpArgs false
/-- below base, block g alone may have changed. -/
structure Keep (g base : Nat) (w w' : World) : Prop where
  os : w'.os = w.os
  tape : w'.tape = w.tape
  output : w'.output = w.output
  size : w.heap.size ≤ w'.heap.size
  block : ∀ k, k < base → k ≠ g → w'.heap[k]? = w.heap[k]?
theorem Keep.refl (g base : Nat) (w : World) : Keep g base w w := ⟨rfl, rfl, rfl, Nat.le_refl _, fun _ _ _ => rfl⟩
theorem Keep.trans {g base : Nat} {a b c : World} (h : Keep g base a b) (k : Keep g base b c) : Keep g base a c :=
  ⟨k.os.trans h.os, k.tape.trans h.tape, k.output.trans h.output, Nat.le_trans h.size k.size, fun i hi hg => (k.block i hi hg).trans (h.block i hi hg)⟩
theorem Keep.of_bar {g base : Nat} {w w' : World} (h : Bar g w w') (hb : base ≤ w.heap.size) : Keep g base w w' := ⟨h.os, h.tape, h.output, h.size, fun k hk hg => h.block k (by omega) hg⟩
theorem Keep.of_below {g base B : Nat} {w w' : World} (h : Below B w w') (hb : base ≤ B) : Keep g base w w' := ⟨h.os, h.tape, h.output, h.size, fun k hk _ => h.block k (by omega)⟩
theorem Keep.set {g base : Nat} {w w' : World} (h : Keep g base w w') (j : Nat) (v : Value) : Keep g base w (w'.setCell ⟨g, j, none⟩ v) :=
  ⟨h.os, h.tape, h.output, by simpa using h.size, fun k hk hg => (Below.heap_setCell _ _ _ _ (fun e => hg (by simpa using e))).trans (h.block k hk hg)⟩
theorem Bar.keep {g : Nat} {w1 w w' : World} (h : Bar g w1 w) (k : Keep g w1.heap.size w w') : Bar g w1 w' :=
  ⟨k.os.trans h.os, k.tape.trans h.tape, k.output.trans h.output, Nat.le_trans h.size k.size, fun i hi hg => (k.block i hi hg).trans (h.block i hi hg)⟩
/-- the slice's own block is none of the other's. -/
def Other (A : Option Addr) (n c : Nat) (Ao : Option Addr) (mo co : Nat) : Prop := ∀ k, (Value.slice A n c).ownBlock = some k → (Value.slice Ao mo co).ownBlock ≠ some k
theorem Other.none (Ao : Option Addr) (mo co : Nat) : Other none 0 0 Ao mo co := fun k h => by cases h
/-- the row of nodes, and the row of the open blocks' places. -/
structure Two (w : World) (base : Nat) (A : Option Addr) (n c : Nat) (Ao : Option Addr) (mo co : Nat) (l : List Nd) (os : List Int) : Prop where
  row : ∃ zs : List NdM, w.ownsRow base 37 20 (.slice A n c) n (zs.flatMap encM) ∧ Holds2 base w zs l ∧ ∀ m ∈ zs, Other m.A m.n m.c Ao mo co
  opn : w.ownsRow base 3 1 (.slice Ao mo co) mo (os.map (Value.int .i64))
theorem Holds2.bar {g base : Nat} {w w' : World} {zs : List NdM} {l : List Nd} (h : Holds2 base w zs l) (hb : Bar g w w') (hg : g < base) : Holds2 base w' zs l :=
  ⟨h.1, fun i m x h1 h2 => ⟨(h.2 i m x h1 h2).1, owns_bar (h.2 i m x h1 h2).2 hb hg⟩⟩
theorem Two.bar {g base : Nat} {w w' : World} {A Ao : Option Addr} {n c mo co : Nat} {l : List Nd} {os : List Int} (h : Two w base A n c Ao mo co l os) (hb : Bar g w w') (hg : g < base) : Two w' base A n c Ao mo co l os := by
  obtain ⟨zs, h1, h2, h3⟩ := h.row
  exact ⟨⟨zs, owns_bar h1 hb hg, h2.bar hb hg, h3⟩, owns_bar h.opn hb hg⟩
theorem Two.below {base : Nat} {w w' : World} {A Ao : Option Addr} {n c mo co : Nat} {l : List Nd} {os : List Int} (h : Two w base A n c Ao mo co l os) (hb : Below w.heap.size w w') : Two w' base A n c Ao mo co l os := by
  obtain ⟨zs, h1, h2, h3⟩ := h.row
  exact ⟨⟨zs, owns_below h1 hb, h2.below hb, h3⟩, owns_below h.opn hb⟩
theorem Two.len {base : Nat} {w : World} {A Ao : Option Addr} {n c mo co : Nat} {l : List Nd} {os : List Int} (h : Two w base A n c Ao mo co l os) : l.length = n ∧ os.length = mo := by
  obtain ⟨zs, h1, h2, _⟩ := h.row
  have e1 := h1.1
  rw [flat_len encM_len] at e1
  have e2 := h.opn.1
  rw [List.length_map] at e2
  exact ⟨by rw [← h2.1]; omega, by omega⟩
theorem Two.nil (w : World) (base : Nat) : Two w base none 0 0 none 0 0 [] [] := ⟨⟨[], World.ownsRow_nil _ _ _ _, Holds2.nil _ _, fun m hm => by cases hm⟩, World.ownsRow_nil _ _ _ _⟩
/-- a node is put at the row's end. -/
theorem Two.push {g base : Nat} {w w6 : World} {A Ao : Option Addr} {n c mo co : Nat} {l : List Nd} {os : List Int} {zs : List NdM} (h1 : w.ownsRow base 37 20 (.slice A n c) n (zs.flatMap encM)) (h2 : Holds2 base w zs l) (h3 : ∀ m ∈ zs, Other m.A m.n m.c Ao mo co)
    (h4 : w.ownsRow base 3 1 (.slice Ao mo co) mo (os.map (Value.int .i64))) (hg : g < base) {m : NdM} {x : Nd} (hm : Holds base w m x) (ho : Other m.A m.n m.c Ao mo co) {A6 : Option Addr} {c6 : Nat}
    (o1 : w6.ownsRow base 37 20 (.slice A6 (n + 1) c6) (n + 1) (zs.flatMap encM ++ encM m)) (hg6 : w.grownBy w6 (Value.slice A n c).ownBlock) (v : Value) :
    Two (w6.setCell ⟨g, 3, none⟩ v) base A6 (n + 1) c6 Ao mo co (l ++ [x]) os := by
  have hm6 : Holds base w6 m x := ⟨hm.1, owns_grown hm.2 h1 (by decide) hg6⟩
  have h26 := h2.grown h1 (by decide) hg6
  refine ⟨⟨zs ++ [m], ?_, ?_, ?_⟩, owns_set (owns_grown h4 h1 (by decide) hg6) hg 3 v⟩
  · rw [List.flatMap_append]
    have : ([m].flatMap encM) = encM m := by simp
    rw [this]
    exact owns_set o1 hg 3 v
  · exact (h26.append (Holds2.one hm6)).same (Same.set w6 hg 3 v)
  · intro m' hm'
    rcases List.mem_append.1 hm' with h' | h'
    · exact h3 m' h'
    · rw [List.mem_singleton.1 h']; exact ho
theorem owns_kept {w w6 : World} {base : Nat} {e : TypeId} {size : Nat} {v : Value} {n : Nat} {xs : List Value} {row : Option Nat} (h : w.ownsRow base e size v n xs) (hg : w.grownBy w6 row) (hr : ∀ k, v.ownBlock = some k → row ≠ some k) : w6.ownsRow base e size v n xs := by
  refine ⟨h.1, ?_⟩
  rcases h.2 with h2 | ⟨g, cap, cur, h1, h2, h3, h4⟩
  · exact .inl h2
  · exact .inr ⟨g, cap, cur, h1, h2, (hg.block g (Array.getElem?_eq_some_iff.1 h3).1 (fun e => hr g (by rw [h1]; rfl) e.symm)).trans h3, h4⟩
/-- a place is put behind those of the open blocks. -/
theorem Two.open_ {g base : Nat} {w w6 : World} {A Ao : Option Addr} {n c mo co : Nat} {l : List Nd} {os : List Int} {zs : List NdM} (h1 : w.ownsRow base 37 20 (.slice A n c) n (zs.flatMap encM)) (h2 : Holds2 base w zs l) (h3 : ∀ m ∈ zs, Other m.A m.n m.c Ao mo co)
    (h4 : w.ownsRow base 3 1 (.slice Ao mo co) mo (os.map (Value.int .i64))) (hg : g < base) (q : Int) {A6 : Option Addr} {c6 : Nat}
    (o1 : w6.ownsRow base 3 1 (.slice A6 (mo + 1) c6) (mo + 1) (os.map (Value.int .i64) ++ [Value.int .i64 q])) (hg6 : w.grownBy w6 (Value.slice Ao mo co).ownBlock)
    (hp : ∀ k, (Value.slice A6 (mo + 1) c6).ownBlock = some k → (Value.slice Ao mo co).ownBlock = some k ∨ k = w.heap.size) (v : Value) :
    Two (w6.setCell ⟨g, 4, none⟩ v) base A n c A6 (mo + 1) c6 l (os ++ [q]) := by
  refine ⟨⟨zs, owns_set (owns_grown h1 h4 (by decide) hg6) hg 4 v, ?_, ?_⟩, ?_⟩
  · refine Holds2.same ⟨h2.1, fun i m x hi hx => ⟨(h2.2 i m x hi hx).1, owns_kept (h2.2 i m x hi hx).2 hg6 (fun k hk => h3 m (List.mem_of_getElem? hi) k hk)⟩⟩ (Same.set w6 hg 4 v)
  · intro m hm k hk hk6
    obtain ⟨i, hi⟩ := List.mem_iff_getElem?.1 hm
    have hil := (List.getElem?_eq_some_iff.1 hi).1
    have hx : l[i]? = some (l[i]'(by rw [← h2.1]; exact hil)) := List.getElem?_eq_getElem _
    rcases hp k hk6 with e | e
    · exact h3 m hm k hk e
    · have := owns_block_lt (h2.2 i m _ hi hx).2 k hk
      omega
  · rw [List.map_append]
    exact owns_set o1 hg 4 v
end Go.Proofs.YtildplbdhnodjaaDoor
/- The program's package read: the innermost open block is left. -/
namespace Go.Proofs.YtildplbdhnodjaaDoor
open Go.RowKit
set_option linter.unusedVariables false
set_option linter.unusedSimpArgs false
theorem owns_shrink {w : World} {base : Nat} {e : TypeId} {A : Option Addr} {n c : Nat} {xs : List Value} {x : Value} (h : w.ownsRow base e 1 (.slice A (n + 1) c) (n + 1) (xs ++ [x])) : ∃ b, A = some ⟨b, 0, none⟩ ∧ n + 1 ≤ c ∧ base ≤ b ∧ w.cell? ⟨b, n, none⟩ = some x ∧ w.ownsRow base e 1 (.slice A n c) n xs := by
  have hl := h.1
  rw [List.length_append, List.length_singleton] at hl
  rcases h.2 with ⟨_, h0⟩ | ⟨g, cap, cur, hv, hb, hg, hnc, hcm, hcs, htake⟩
  · omega
  · injection hv with hA _ hc
    subst hA hc
    refine ⟨g, rfl, hnc, hb, ?_, by omega, .inr ⟨g, c, cur, rfl, hb, hg, by omega, hcm, hcs, ?_⟩⟩
    · have := h.cells (g := g) rfl n x (by rw [List.getElem?_append_right (by omega)]; simp [show n - xs.length = 0 by omega])
      rwa [Go.WideShapes.add_plain, Nat.zero_add] at this
    · have e1 : cur.toList.take (n * 1) = (cur.toList.take ((n + 1) * 1)).take (n * 1) := by rw [List.take_take]; congr 1; omega
      rw [e1, htake, List.take_left' (by omega)]
theorem owns_put {w : World} {base : Nat} {e : TypeId} {size : Nat} {b n c : Nat} {xs : List Value} (h : w.ownsRow base e size (.slice (some ⟨b, 0, none⟩) n c) n xs) {j : Nat} (hj : j < xs.length) (v : Value) : (w.setCell ⟨b, j, none⟩ v).ownsRow base e size (.slice (some ⟨b, 0, none⟩) n c) n (xs.set j v) := by
  refine ⟨by rw [List.length_set]; exact h.1, ?_⟩
  rcases h.2 with ⟨hv, _⟩ | ⟨g, cap, cur, hv, hb, hg, hnc, hcm, hcs, htake⟩
  · cases hv
  · injection hv with hA _ hc
    injection hA with hA
    injection hA with hA
    subst hA hc
    obtain ⟨hlt, hk⟩ := Array.getElem?_eq_some_iff.1 hg
    refine .inr ⟨b, c, cur.setIfInBounds j v, rfl, hb, ?_, hnc, hcm, by simpa using hcs, ?_⟩
    · show (w.heap.modify b _)[b]? = _
      rw [Array.getElem?_eq_getElem (by rw [Array.size_modify]; exact hlt), Array.getElem_modify_self, hk]
      simp
    · rw [Array.toList_setIfInBounds, List.take_set, htake]
theorem encM_size (zs : List NdM) (k : Nat) (m : NdM) (hm : zs[k]? = some m) (v : Int) : (zs.flatMap encM).set (k * 20 + 1) (.int .i64 v) = (zs.set k { m with size := v }).flatMap encM := by
  induction zs generalizing k with
  | nil => simp at hm
  | cons z zs ih =>
    cases k with
    | zero => simp at hm; subst hm; rfl
    | succ k =>
      rw [List.set_cons_succ, List.flatMap_cons, List.flatMap_cons, List.set_append_right _ _ (by rw [encM_len]; omega), encM_len, show (k + 1) * 20 + 1 - 20 = k * 20 + 1 by omega, ih k (by simpa using hm)]
theorem owns_apart {w : World} {base base' b : Nat} {e e' : TypeId} {size size' n n' c : Nat} {v : Value} {xs xs' : List Value} (h : w.ownsRow base e size v n xs) (h' : w.ownsRow base' e' size' (.slice (some ⟨b, 0, none⟩) n' c) n' xs') (hne : e ≠ e') : ∀ k, v.ownBlock = some k → k ≠ b := by
  intro k hk hkb
  subst hkb
  rcases h.2 with ⟨q, _⟩ | ⟨g, cap, cur, q, _, q3, _⟩
  · rw [q] at hk; cases hk
  · rw [q] at hk
    injection hk with hk
    rcases h'.2 with ⟨r, _⟩ | ⟨g', cap', cur', r, _, r3, _⟩
    · cases r
    · injection r with r
      injection r with r
      injection r with r
      rw [← r, ← show g = k from hk, q3] at r3
      injection r3 with r3
      injection r3 with _ r3
      exact hne r3
theorem owns_set_off {w : World} {base : Nat} {e : TypeId} {size : Nat} {v : Value} {n : Nat} {xs : List Value} (h : w.ownsRow base e size v n xs) {m : Nat} (hm : ∀ k, v.ownBlock = some k → k ≠ m) (j : Nat) (u : Value) : (w.setCell ⟨m, j, none⟩ u).ownsRow base e size v n xs := by
  refine ⟨h.1, ?_⟩
  rcases h.2 with h2 | ⟨g, cap, cur, h1, h2, h3, h4⟩
  · exact .inl h2
  · exact .inr ⟨g, cap, cur, h1, h2, (Below.heap_setCell _ _ _ _ (fun e => hm g (by rw [h1]; rfl) (by simpa using e))).trans h3, h4⟩
theorem Two.resize {w : World} {base g b n c gO mo co K : Nat} {l1 l2 : List Nd} {x : Nd} {os : List Int} {zs : List NdM} {mk : NdM} (T1 : w.ownsRow base 37 20 (.slice (some ⟨b, 0, none⟩) n c) n (zs.flatMap encM)) (T2 : Holds2 base w zs (l1 ++ x :: l2))
    (T3 : ∀ m ∈ zs, Other m.A m.n m.c (some ⟨gO, 0, none⟩) (mo + 1) co) (T5 : w.ownsRow base 3 1 (.slice (some ⟨gO, 0, none⟩) mo co) mo (os.map (Value.int .i64))) (hK : l1.length = K) (hzk : zs[K]? = some mk) (hg : g < base) (z : Int) (v : Value) :
    Two ((w.setCell ⟨b, K * 20 + 1, none⟩ (.int .i64 z)).setCell ⟨g, 4, none⟩ v) base (some ⟨b, 0, none⟩) n c (some ⟨gO, 0, none⟩) mo co (l1 ++ { x with size := z } :: l2) os := by
  have hkl := (List.getElem?_eq_some_iff.1 hzk).1
  have hxk : (l1 ++ x :: l2)[K]? = some x := by rw [List.getElem?_append_right (by omega), hK, Nat.sub_self]; rfl
  have hset : (l1 ++ { x with size := z } :: l2) = (l1 ++ x :: l2).set K { x with size := z } := by rw [List.set_append_right _ _ (by omega), hK, Nat.sub_self]; rfl
  refine ⟨⟨zs.set K { mk with size := z }, ?_, ?_, ?_⟩, ?_⟩
  · rw [← encM_size zs K mk hzk z]
    exact owns_set (owns_put T1 (by rw [flat_len encM_len]; omega) _) hg 4 v
  · rw [hset]
    refine Holds2.same (w := w.setCell ⟨b, K * 20 + 1, none⟩ (.int .i64 z)) ⟨by rw [List.length_set, List.length_set]; exact T2.1, fun i m y hi hy => ?_⟩ (Same.set _ hg 4 v)
    by_cases hiK : i = K
    · subst hiK
      rw [List.getElem?_set_self hkl] at hi
      rw [List.getElem?_set_self (by rw [← T2.1]; exact hkl)] at hy
      cases hi
      cases hy
      have q := T2.2 i mk x hzk hxk
      exact ⟨⟨q.1.1, rfl, q.1.2.2.1, q.1.2.2.2.1, q.1.2.2.2.2.1, q.1.2.2.2.2.2.1, q.1.2.2.2.2.2.2.1, q.1.2.2.2.2.2.2.2⟩, owns_set_off q.2 (owns_apart q.2 T1 (by decide)) _ _⟩
    · rw [List.getElem?_set_ne (fun e => hiK e.symm)] at hi hy
      have q := T2.2 i m y hi hy
      exact ⟨q.1, owns_set_off q.2 (owns_apart q.2 T1 (by decide)) _ _⟩
  · intro m hm k hk e
    rcases List.mem_or_eq_of_mem_set hm with h | h
    · exact T3 m h k hk e
    · subst h
      exact T3 mk (List.mem_of_getElem? hzk) k hk e
  · exact owns_set (owns_set_off T5 (owns_apart T5 T1 (by decide)) _ _) hg 4 v
set_option maxHeartbeats 4000000 in
set_option maxRecDepth 100000 in
theorem leave_any {toks : List Tok} {size : Int} {g base : Nat} {w : World} {i : Nat} {wr : Bool} {s : Sty} {mp : Value} {A Ao : Option Addr} {n c mo co : Nat} {l1 l2 : List Nd} {x : Nd} {os : List Int} (h : Rd toks size g w i wr (.slice A n c) (.slice Ao (mo + 1) co) s mp) (ht : Two w base A n c Ao (mo + 1) co (l1 ++ x :: l2) (os ++ [(l1.length : Int)])) (hg : g < base) (hB : base ≤ w.heap.size) (hn : n ≤ 1000000) (hmo : mo ≤ 1000000) :
    Calls Tryd.prog 26 #[.pointer (some ⟨g, 0, none⟩)] w fun e w' => (∃ v, e = .returned v) ∧ Rd toks size g w' i wr (.slice A n c) (.slice Ao mo co) s mp ∧ Two w' base A n c Ao mo co (l1 ++ { x with size := (n : Int) - l1.length } :: l2) os ∧ Keep g base w w' := by
  obtain ⟨zs, t1, t2, t3⟩ := ht.row
  have t4 := ht.opn
  rw [List.map_append] at t4
  obtain ⟨gO, rfl, hco, hO1, hO2, t5⟩ := owns_shrink t4
  have hlen := ht.len
  rw [List.length_append, List.length_cons] at hlen
  obtain ⟨K, hK⟩ : ∃ K, l1.length = K := ⟨_, rfl⟩
  rw [hK] at hO2 hlen ⊢
  have hzl := t2.1
  rw [List.length_append, List.length_cons, hK] at hzl
  have hzk : zs[K]? = some (zs[K]'(by omega)) := List.getElem?_eq_getElem _
  generalize zs[K]'(by omega) = mk at hzk
  obtain ⟨b, hb0, hbb⟩ : ∃ b, A = some ⟨b, 0, none⟩ ∧ base ≤ b := by
    rcases t1.2 with ⟨_, h0⟩ | ⟨gg, cap, cur, hv, hb, _⟩
    · omega
    · injection hv with hA _ _
      exact ⟨gg, hA, hb⟩
  subst hb0
  have hbl := owns_block_lt t1 b rfl
  have hrow : w.cell? ⟨b, K * 20 + 1, none⟩ = some (.int .i64 mk.size) := by
    have := (ownsRow_rows encM_len (by decide) t1).2.2 (by omega)
    obtain ⟨b', off, e1, _, hc⟩ := this
    cases e1
    have := hc K mk hzk 1 (.int .i64 mk.size) rfl
    rwa [Nat.zero_add] at this
  have hfz : w.frozen? ⟨b, K * 20 + 1, none⟩ = false := by
    rcases t1.2 with ⟨hv, _⟩ | ⟨gg, cap, cur, hv, _, hh, _⟩
    · cases hv
    · injection hv with hA _ _
      cases hA
      simp [World.frozen?, hh]
  have c3 := h.cells.2.2.1
  have c4 := h.cells.2.2.2
  have f4 := h.frozen 4
  have g0 := h.lt
  have hKn : K < n := by omega
  have HR := Lib.hid h
  have T1 := Lib.hid t1
  have T2 := Lib.hid t2
  have T3 := Lib.hid t3
  have T4 := Lib.hid ht.opn
  have T5 := Lib.hid t5
  clear h ht t1 t2 t3 t4 t5
  go_enter Tryd.func26, Tryd.ntmps26
  go_wp2_with fail
  refine wp_region_held_tail 14 (S := fun W' => W'.cell? ⟨g, 3, none⟩ = some (.slice (some ⟨b, 0, none⟩) n c)) (by kernel_rfl) (by kernel_rfl) rfl c3 (fun h0 => ?_)
  simp only [headOf, List.take_succ_cons, List.take_zero, List.getElem_toArray, List.getElem_cons_succ, List.getElem_cons_zero]
  refine wpAnyH_take (i := 0) (v := ?_) rfl (by kernel_rfl) (by kernel_rfl) (by kernel_rfl) (fun _ _ _ h => h) (Or.inl ⟨by rfl, ?_⟩) h0 ?_
  rotate_left
  · intro w hSw; (try dsimp only at hSw); go_simp; with_reducible rfl
  try simp only [Act.put, List.setIfInBounds_toArray, List.set_cons_zero, List.set_cons_succ]
  refine wpAnyH_take (i := 1) (v := ?_) rfl (by kernel_rfl) (by kernel_rfl) (by kernel_rfl) (fun _ _ _ h => h) (Or.inl ⟨by rfl, ?_⟩) h0 ?_
  rotate_left
  · intro w hSw; (try dsimp only at hSw); go_simp; with_reducible rfl
  try simp only [Act.put, List.setIfInBounds_toArray, List.set_cons_zero, List.set_cons_succ]
  refine wpAnyH_take (i := 2) (v := ?_) rfl (by kernel_rfl) (by kernel_rfl) (by kernel_rfl) (fun _ _ _ h => h) (Or.inl ⟨by rfl, ?_⟩) h0 ?_
  rotate_left
  · intro w hSw; (try dsimp only at hSw); go_simp; with_reducible rfl
  try simp only [Act.put, List.setIfInBounds_toArray, List.set_cons_zero, List.set_cons_succ]
  refine wpAnyH_take (i := 3) (v := ?_) rfl (by kernel_rfl) (by kernel_rfl) (by kernel_rfl) (fun _ _ _ h => h) (Or.inl ⟨by rfl, ?_⟩) h0 ?_
  rotate_left
  · intro w hSw; (try dsimp only at hSw); go_simp; with_reducible rfl
  try simp only [Act.put, List.setIfInBounds_toArray, List.set_cons_zero, List.set_cons_succ]
  refine wpAnyH_take (i := 4) (v := ?_) rfl (by kernel_rfl) (by kernel_rfl) (by kernel_rfl) (fun _ _ _ h => h) (Or.inl ⟨by rfl, ?_⟩) h0 ?_
  rotate_left
  · intro w hSw; (try dsimp only at hSw); go_simp; with_reducible rfl
  try simp only [Act.put, List.setIfInBounds_toArray, List.set_cons_zero, List.set_cons_succ]
  refine wpAnyH_take (i := 5) (v := ?_) rfl (by kernel_rfl) (by kernel_rfl) (by kernel_rfl) (fun _ _ _ h => h) (Or.inl ⟨by rfl, ?_⟩) h0 ?_
  rotate_left
  · intro w hSw; (try dsimp only at hSw); go_simp; with_reducible rfl
  try simp only [Act.put, List.setIfInBounds_toArray, List.set_cons_zero, List.set_cons_succ]
  refine wpAnyH_take (i := 6) (v := ?_) rfl (by kernel_rfl) (by kernel_rfl) (by kernel_rfl) (fun _ _ _ h => h) (Or.inl ⟨by rfl, ?_⟩) h0 ?_
  rotate_left
  · intro w hSw; (try dsimp only at hSw); go_simp; with_reducible rfl
  try simp only [Act.put, List.setIfInBounds_toArray, List.set_cons_zero, List.set_cons_succ]
  refine wpAnyH_take (i := 7) (v := ?_) rfl (by kernel_rfl) (by kernel_rfl) (by kernel_rfl) (fun _ _ _ h => h) (Or.inl ⟨by rfl, ?_⟩) h0 ?_
  rotate_left
  · intro w hSw; (try dsimp only at hSw); go_simp; with_reducible rfl
  try simp only [Act.put, List.setIfInBounds_toArray, List.set_cons_zero, List.set_cons_succ]
  refine wpAnyH_take (i := 8) (v := ?_) rfl (by kernel_rfl) (by kernel_rfl) (by kernel_rfl) (fun _ _ _ h => h) (Or.inl ⟨by rfl, ?_⟩) h0 ?_
  rotate_left
  · intro w hSw; (try dsimp only at hSw); go_simp; with_reducible rfl
  try simp only [Act.put, List.setIfInBounds_toArray, List.set_cons_zero, List.set_cons_succ]
  refine wpAnyH_take (i := 9) (v := ?_) rfl (by kernel_rfl) (by kernel_rfl) (by kernel_rfl) (fun _ _ _ h => h) (Or.inl ⟨by rfl, ?_⟩) h0 ?_
  rotate_left
  · intro w hSw; (try dsimp only at hSw); go_simp; with_reducible rfl
  try simp only [Act.put, List.setIfInBounds_toArray, List.set_cons_zero, List.set_cons_succ]
  refine wpAnyH_take (i := 10) (v := ?_) rfl (by kernel_rfl) (by kernel_rfl) (by kernel_rfl) (fun _ _ _ h => h) (Or.inl ⟨by rfl, ?_⟩) h0 ?_
  rotate_left
  · intro w hSw; (try dsimp only at hSw); go_simp; with_reducible rfl
  try simp only [Act.put, List.setIfInBounds_toArray, List.set_cons_zero, List.set_cons_succ]
  refine wpAnyH_take (i := 11) (v := ?_) rfl (by kernel_rfl) (by kernel_rfl) (by kernel_rfl) (fun _ _ _ h => h) (Or.inl ⟨by rfl, ?_⟩) h0 ?_
  rotate_left
  · intro w hSw; (try dsimp only at hSw); go_simp; with_reducible rfl
  try simp only [Act.put, List.setIfInBounds_toArray, List.set_cons_zero, List.set_cons_succ]
  refine wpAnyH_take (i := 12) (v := ?_) rfl (by kernel_rfl) (by kernel_rfl) (by kernel_rfl) (fun _ _ _ h => h) (Or.inl ⟨by rfl, ?_⟩) h0 ?_
  rotate_left
  · intro w hSw; (try dsimp only at hSw); go_simp; with_reducible rfl
  try simp only [Act.put, List.setIfInBounds_toArray, List.set_cons_zero, List.set_cons_succ]
  refine wpAnyH_take (i := 13) (v := ?_) rfl (by kernel_rfl) (by kernel_rfl) (by kernel_rfl) (fun _ _ _ h => h) (Or.inl ⟨by rfl, ?_⟩) h0 ?_
  rotate_left
  · intro w hSw; (try dsimp only at hSw); go_simp; with_reducible rfl
  try simp only [Act.put, List.setIfInBounds_toArray, List.set_cons_zero, List.set_cons_succ]
  refine wpAnyH_done (by kernel_rfl) ?_ _
  show wpList _ _ _ _ _ _
  go_wp2_with fail
  go_end0
  have hb1 : Below base w (w.setCell ⟨b, K * 20 + 1, none⟩ (.int .i64 ((n : Int) - K))) := Below.setCell (Below.refl _ _) (by simp only; omega) _
  exact ⟨⟨_, rfl⟩, ((HR.out.low (hb1.mono (by omega))).set (opn' := .slice (some ⟨gO, 0, none⟩) mo co) 4 _ (fun _ => rfl)).bar (Bar.refl g _).drew rfl, (Two.resize T1.out T2.out T3.out T5.out hK hzk hg _ _).bar (Bar.refl g _).drew hg, ((Keep.of_below hb1 (Nat.le_refl _)).set 4 _).trans (Keep.of_bar (Bar.refl g _).drew (by simp; omega))⟩
end Go.Proofs.YtildplbdhnodjaaDoor
