import Derived.Test.YtechccoongilcaaDoorJD723
import Derived.Test.YtechccoongilcaaDoorJD721
import Derived.Test.YtechccoongilcaaDoorJD712
/- The program's package read: the machine. (Written by program: tools/drafts/gendoc.py.) -/
namespace Go.Proofs.YtechccoongilcaaDoor
open Go.RowKit
set_option linter.unusedVariables false
set_option linter.unusedSimpArgs false
theorem end_block (s : Sty) (w : World) : Calls Tryd.prog 34 #[.agg (encS12 s).toArray] w fun e w' => e = .returned (.int .i32 93) ∧ Below w.heap.size w w' := by
  simp only [encS12]
  go_enter Tryd.func34, Tryd.ntmps34
  go_wp2
  go_ret
  exact ⟨rfl, by go_grown⟩
theorem owns_capn {base : Nat} {w : World} {e : TypeId} {size : Nat} {A : Option Addr} {n c : Nat} {xs : List Value} (h : w.ownsRow base e size (.slice A n c) n xs) : n ≤ c := by
  rcases h.2 with ⟨h1, h2⟩ | ⟨g, cap, cur, h1, _, _, h2, _⟩
  · omega
  · injection h1 with _ _ h3; omega
/-- what holds at the loop's head. -/
structure DocI (toks : List Tok) (size : Int) (g M : Nat) (w wr : World) (i : Nat) (b : Bool) (A : Option Addr) (n c : Nat) (Ao : Option Addr) (mo co : Nat) (s : Sty) : Prop where
  rd : Rd toks size g wr i b (.slice A n c) (.slice Ao mo co) s (.map (some M))
  bar : Bar g w wr
  go : b = false → ∃ fs cur, Two wr w.heap.size A n c Ao mo co (rowF fs ++ cur) (openF fs) ∧ n ≤ i ∧ Runs toks fs i cur
  stop : b = true → Fin toks (none, i)
def DocA (g : Nat) (v : Bool) (U : Nat → Value) : Act := ⟨#[.pointer (some ⟨g, 0, none⟩), undef, .bool false, U 3, U 4, U 5, U 6, U 7, U 8, U 9, U 10, U 11, U 12, U 13, U 14, U 15, U 16, U 17, U 18, U 19, U 20, .bool v, U 22, U 23, U 24, U 25, U 26, U 27, U 28, U 29, U 30, undef, undef, undef, undef, undef, undef, undef, undef, undef, undef, undef, undef, undef, undef], []⟩
theorem docA_of (g : Nat) (v : Bool) (u3 u4 u5 u6 u7 u8 u9 u10 u11 u12 u13 u14 u15 u16 u17 u18 u19 u20 u22 u23 u24 u25 u26 u27 u28 u29 u30 : Value) : ∃ U, (⟨#[.pointer (some ⟨g, 0, none⟩), undef, .bool false, u3, u4, u5, u6, u7, u8, u9, u10, u11, u12, u13, u14, u15, u16, u17, u18, u19, u20, .bool v, u22, u23, u24, u25, u26, u27, u28, u29, u30, undef, undef, undef, undef, undef, undef, undef, undef, undef, undef, undef, undef, undef, undef], []⟩ : Act) = DocA g v U :=
  ⟨fun k => match k with | 3 => u3 | 4 => u4 | 5 => u5 | 6 => u6 | 7 => u7 | 8 => u8 | 9 => u9 | 10 => u10 | 11 => u11 | 12 => u12 | 13 => u13 | 14 => u14 | 15 => u15 | 16 => u16 | 17 => u17 | 18 => u18 | 19 => u19 | 20 => u20 | 22 => u22 | 23 => u23 | 24 => u24 | 25 => u25 | 26 => u26 | 27 => u27 | 28 => u28 | 29 => u29 | 30 => u30 | _ => undef, rfl⟩
/-- what holds behind the question whether a block ends. -/
structure DocE (toks : List Tok) (size : Int) (g M : Nat) (w wr : World) (i : Nat) (A : Option Addr) (n c : Nat) (Ao : Option Addr) (mo co : Nat) (s : Sty) (v : Bool) : Prop where
  rd : Rd toks size g wr (i + v.toNat) false (.slice A n c) (.slice Ao mo co) s (.map (some M))
  bar : Bar g w wr
  yes : v = true → 0 < mo ∧ sgB toks i 93 = true
  no : v = false → 0 < mo → sgB toks i 93 = false
set_option maxHeartbeats 8000000 in
set_option maxRecDepth 100000 in
theorem document_any {toks : List Tok} {size : Int} {g rb M : Nat} {w : World} {s0 : Sty} (hl : Lets w rb g M) (h : Rd toks size g w 0 false (.slice none 0 0) (.slice none 0 0) s0 (.map (some M))) (hlen : toks.length ≤ 900000) :
    Calls Tryd.prog 16 #[.pointer (some ⟨g, 0, none⟩)] w fun e w' => ∃ v i b A n c Ao mo co s, e = .returned (.bool v) ∧ DocI toks size g M w w' i b A n c Ao mo co s ∧ (v = true → ∃ x, Parse toks true 0 [] (.ok x toks.length) ∧ Nds w.heap.size w' A n x ∧ n ≤ c) ∧ (v = false → Fin toks (none, i)) := by
  have HL := Lib.hid hl
  have HR0 := Lib.hid h
  have g0 := h.lt
  have HI0 := Lib.hid (show DocI toks size g M w w 0 false none 0 0 none 0 0 s0 from ⟨h, Bar.refl g w, fun _ => ⟨[], [], Two.nil _ _, Nat.le_refl _, fun r hr => by cases hr; assumption⟩, fun e => (by cases e)⟩)
  clear h hl
  go_enter Tryd.func16, Tryd.ntmps16
  go_wp2_with fail
  go_loopw [3] (fun _ wr => ∃ (i : Nat) (b : Bool) (A : Option Addr) (n c : Nat) (Ao : Option Addr) (mo co : Nat) (s : Sty), DocI toks size g M w wr i b A n c Ao mo co s) (fun _ wr => meas wr g)
  case atStart => exact ⟨0, false, none, 0, 0, none, 0, 0, s0, HI0.out⟩
  case round =>
    clear HI0
    obtain ⟨i, b, A, n, c, Ao, mo, co, s, hi⟩ := hrel
    have HI := Lib.hid hi
    have hil := hi.rd.le
    have hms := hi.rd.meas
    have g1 := hi.rd.lt
    have hbs := hi.bar.size
    have c2 : wr.cell? ⟨g, 2, none⟩ = some (.bool b) := by obtain ⟨_, _, _, _, _, _, _, h5⟩ := hi.rd; exact h5.box.2.2 2 _ rfl
    have c4 := hi.rd.cells.2.2.2
    clear hi
    by_cases hmo : (!b && decide (i < toks.length)) = false
    · have HM := Lib.hid (more_to hmo HI.out.rd)
      cases b with
      | true =>
        clear hmo
        go_wp2_with (go_at_call 32; refine HM.out.mono ?_; rintro e w' ⟨rfl, rfl⟩)
        go_ret
        exact ⟨false, i, true, A, n, c, Ao, mo, co, s, rfl, HI.out, fun e => (by cases e), fun _ => HI.out.stop rfl⟩
      | false =>
        obtain ⟨fs, cur, h2, hn, hrun⟩ := HI.out.go rfl
        have hi2 : i = toks.length := by simp at hmo; omega
        have hno : toks[i]? = none := List.getElem?_eq_none (by omega)
        have hsg : ∀ c, sgB toks i c = false := fun c => by unfold sgB; rw [hno]
        have hop : opens toks i = false := by unfold opens; simp [hsg]
        have hlen2 := h2.len
        rw [openF_len] at hlen2
        have H2 := Lib.hid h2
        have hfin := fin_end hrun hi2 hop (hsg _)
        clear hmo h2
        cases fs with
        | nil =>
          have hmo0 : mo = 0 := by have := hlen2.2; simp at this; omega
          subst hmo0
          have HF := Lib.hid (show Parse toks true 0 [] (.ok cur toks.length) from hi2 ▸ hrun _ (.done (.stop hop)))
          clear hfin hrun hop hlen2 hno hsg
          go_wp2_with (go_at_call 32; refine HM.out.mono ?_; rintro e w' ⟨rfl, rfl⟩)
          go_ret
          refine ⟨true, i, false, A, n, c, Ao, 0, co, s, rfl, HI.out, fun _ => ⟨cur, HF.out, ?_⟩, fun e => (by cases e)⟩
          obtain ⟨zs, t1, t2, _⟩ := H2.out.row
          exact ⟨⟨zs, ownsRow_rows encM_len (by decide) t1, t2, Far.owns t1⟩, owns_capn t1⟩
        | cons f fs =>
          have hmo0 : ((mo : Int) == 0) = false := by have := hlen2.2; simp at this ⊢; omega
          have HF := Lib.hid (show Fin toks (none, i) from by simpa using hfin)
          clear hfin hrun hop hlen2 hno hsg
          go_wp2_with (go_at_call 32; refine HM.out.mono ?_; rintro e w' ⟨rfl, rfl⟩)
          go_ret
          exact ⟨false, i, false, A, n, c, Ao, mo, co, s, rfl, HI.out, fun e => (by cases e), fun _ => HF.out⟩
    · have hmo : (!b && decide (i < toks.length)) = true := by simpa using hmo
      have hbf : b = false := by cases b with | false => rfl | true => simp at hmo
      subst hbf
      have hilt : i < toks.length := by simpa using hmo
      have HM := Lib.hid (more_to hmo HI.out.rd)
      clear hmo
      go_wp2_with (go_at_call 32; refine HM.out.mono ?_; rintro e w' ⟨rfl, rfl⟩)
      obtain ⟨fs, cur, h2, hn, hrun⟩ := HI.out.go rfl
      have H2 := Lib.hid h2
      have HRUN := Lib.hid hrun
      have hlen2 := h2.len
      rw [openF_len] at hlen2
      clear h2 hrun
      refine Code.wp_mono (Q := fun e a V => e = Exit.normal ∧ ∃ (v : Bool), (∃ U, a = DocA g v U) ∧ DocE toks size g M w V i A n c Ao mo co s v ∧ Bar g wr V) ?_ ?_
      rotate_left
      · by_cases hz : mo = 0
        · subst hz
          refine wp_region_held (S := fun W' => W'.cell? ⟨g, 4, none⟩ = some (.slice Ao 0 co)) (by kernel_rfl) ?_
          show wpAnyH _ _ _ _ _ _ _ _ wr.drew
          have h0 : wr.drew.cell? ⟨g, 4, none⟩ = some (.slice Ao 0 co) := c4
          refine wpAnyH_take (i := 0) (v := ?_) rfl (by kernel_rfl) (by kernel_rfl) (by kernel_rfl) (fun _ _ _ h => absurd h.1 (by simp)) (Or.inl ⟨by rfl, ?_⟩) h0 ?_
          rotate_left
          · intro w hSw; (try dsimp only at hSw); go_simp; with_reducible rfl
          try simp only [Act.put, List.getElem_toArray, List.getElem_cons_succ, List.getElem_cons_zero, List.setIfInBounds_toArray, List.set_cons_zero, List.set_cons_succ]
          refine wpAnyH_take (i := 1) (v := ?_) rfl (by kernel_rfl) (by kernel_rfl) (by kernel_rfl) (fun _ _ _ h => absurd h.1 (by simp)) (Or.inl ⟨by rfl, ?_⟩) h0 ?_
          rotate_left
          · intro w hSw; (try dsimp only at hSw); go_simp; with_reducible rfl
          try simp only [Act.put, List.getElem_toArray, List.getElem_cons_succ, List.getElem_cons_zero, List.setIfInBounds_toArray, List.set_cons_zero, List.set_cons_succ]
          refine wpAnyH_take (i := 2) (v := ?_) rfl (by kernel_rfl) (by kernel_rfl) (by kernel_rfl) (fun _ _ _ h => absurd h.1 (by simp)) (Or.inl ⟨by rfl, ?_⟩) h0 ?_
          rotate_left
          · intro w hSw; (try dsimp only at hSw); go_simp; with_reducible rfl
          try simp only [Act.put, List.getElem_toArray, List.getElem_cons_succ, List.getElem_cons_zero, List.setIfInBounds_toArray, List.set_cons_zero, List.set_cons_succ]
          refine wpAnyH_take (i := 3) (v := ?_) rfl (by kernel_rfl) (by kernel_rfl) (by kernel_rfl) (fun _ _ _ h => absurd h.1 (by simp)) (Or.inl ⟨by rfl, ?_⟩) h0 ?_
          rotate_left
          · intro w hSw; (try dsimp only at hSw); go_simp; with_reducible rfl
          try simp only [Act.put, List.getElem_toArray, List.getElem_cons_succ, List.getElem_cons_zero, List.setIfInBounds_toArray, List.set_cons_zero, List.set_cons_succ]
          refine wpAnyH_take (i := 4) (v := ?_) rfl (by kernel_rfl) (by kernel_rfl) (by kernel_rfl) (fun _ _ _ h => absurd h.1 (by simp)) (Or.inl ⟨by rfl, ?_⟩) h0 ?_
          rotate_left
          · intro w hSw; (try dsimp only at hSw); go_simp; with_reducible rfl
          try simp only [Act.put, List.getElem_toArray, List.getElem_cons_succ, List.getElem_cons_zero, List.setIfInBounds_toArray, List.set_cons_zero, List.set_cons_succ]
          refine wpAnyH_take (i := 5) (v := ?_) rfl (by kernel_rfl) (by kernel_rfl) (by kernel_rfl) (fun _ _ _ h => absurd h.1 (by simp)) (Or.inl ⟨by rfl, ?_⟩) h0 ?_
          rotate_left
          · intro w hSw; (try dsimp only at hSw); go_simp; with_reducible rfl
          try simp only [Act.put, List.getElem_toArray, List.getElem_cons_succ, List.getElem_cons_zero, List.setIfInBounds_toArray, List.set_cons_zero, List.set_cons_succ]
          refine wpAnyH_take (i := 6) (v := ?_) rfl (by kernel_rfl) (by kernel_rfl) (by kernel_rfl) (fun _ _ _ h => absurd h.1 (by simp)) (Or.inl ⟨by rfl, ?_⟩) h0 ?_
          rotate_left
          · intro w hSw; (try dsimp only at hSw); go_simp; with_reducible rfl
          try simp only [Act.put, List.getElem_toArray, List.getElem_cons_succ, List.getElem_cons_zero, List.setIfInBounds_toArray, List.set_cons_zero, List.set_cons_succ]
          refine wpAnyH_take (i := 7) (v := undef) rfl (by kernel_rfl) (by kernel_rfl) (by kernel_rfl) (fun _ _ _ h => absurd h.1 (by simp)) (Or.inr ⟨by kernel_rfl, rfl⟩) h0 ?_
          try simp only [Act.put, List.getElem_toArray, List.getElem_cons_succ, List.getElem_cons_zero, List.setIfInBounds_toArray, List.set_cons_zero, List.set_cons_succ]
          refine wpAnyH_take (i := 8) (v := undef) rfl (by kernel_rfl) (by kernel_rfl) (by kernel_rfl) (fun _ _ _ h => absurd h.1 (by simp)) (Or.inr ⟨by kernel_rfl, rfl⟩) h0 ?_
          try simp only [Act.put, List.getElem_toArray, List.getElem_cons_succ, List.getElem_cons_zero, List.setIfInBounds_toArray, List.set_cons_zero, List.set_cons_succ]
          refine wpAnyH_take (i := 9) (v := undef) rfl (by kernel_rfl) (by kernel_rfl) (by kernel_rfl) (fun _ _ _ h => absurd h.1 (by simp)) (Or.inr ⟨by kernel_rfl, rfl⟩) h0 ?_
          try simp only [Act.put, List.getElem_toArray, List.getElem_cons_succ, List.getElem_cons_zero, List.setIfInBounds_toArray, List.set_cons_zero, List.set_cons_succ]
          refine wpAnyH_take (i := 10) (v := undef) rfl (by kernel_rfl) (by kernel_rfl) (by kernel_rfl) (fun _ _ _ h => absurd h.1 (by simp)) (Or.inr ⟨by kernel_rfl, rfl⟩) h0 ?_
          try simp only [Act.put, List.getElem_toArray, List.getElem_cons_succ, List.getElem_cons_zero, List.setIfInBounds_toArray, List.set_cons_zero, List.set_cons_succ]
          refine wpAnyH_take (i := 11) (v := undef) rfl (by kernel_rfl) (by kernel_rfl) (by kernel_rfl) (fun _ _ _ h => absurd h.1 (by simp)) (Or.inr ⟨by kernel_rfl, rfl⟩) h0 ?_
          try simp only [Act.put, List.getElem_toArray, List.getElem_cons_succ, List.getElem_cons_zero, List.setIfInBounds_toArray, List.set_cons_zero, List.set_cons_succ]
          refine wpAnyH_take (i := 12) (v := undef) rfl (by kernel_rfl) (by kernel_rfl) (by kernel_rfl) (fun _ _ _ h => absurd h.1 (by simp)) (Or.inr ⟨by kernel_rfl, rfl⟩) h0 ?_
          try simp only [Act.put, List.getElem_toArray, List.getElem_cons_succ, List.getElem_cons_zero, List.setIfInBounds_toArray, List.set_cons_zero, List.set_cons_succ]
          refine wpAnyH_take (i := 13) (v := ?_) rfl (by kernel_rfl) (by kernel_rfl) (by kernel_rfl) (fun _ _ _ h => absurd h.1 (by simp)) (Or.inl ⟨by rfl, ?_⟩) h0 ?_
          rotate_left
          · intro w hSw; (try dsimp only at hSw); go_simp; with_reducible rfl
          try simp only [Act.put, List.getElem_toArray, List.getElem_cons_succ, List.getElem_cons_zero, List.setIfInBounds_toArray, List.set_cons_zero, List.set_cons_succ]
          refine wpAnyH_done (by kernel_rfl) ?_ _
          exact ⟨rfl, false, docA_of g false _ _ _ _ _ _ _ _ _ _ _ _ _ _ _ _ _ _ _ _ _ _ _ _ _ _ _, ⟨HI.out.rd.bar (Bar.refl g wr).drew rfl, HI.out.bar.drew, fun e => (by cases e), fun _ e => absurd e (by decide)⟩, (Bar.refl g wr).drew⟩
        · obtain ⟨m1, rfl⟩ : ∃ m1, mo = m1 + 1 := ⟨mo - 1, by omega⟩
          refine wp_region_held (S := fun W' => W'.cell? ⟨g, 4, none⟩ = some (.slice Ao (m1 + 1) co)) (by kernel_rfl) ?_
          show wpAnyH _ _ _ _ _ _ _ _ wr.drew
          have h0 : wr.drew.cell? ⟨g, 4, none⟩ = some (.slice Ao (m1 + 1) co) := c4
          have hrd := HI.out.rd.bar (Bar.refl g wr).drew rfl
          have hbd := (Bar.refl g wr).drew
          have hbd2 := HI.out.bar.drew
          generalize wr.drew = V0 at h0 hrd hbd hbd2 ⊢
          refine wpAnyH_take (i := 0) (v := ?_) rfl (by kernel_rfl) (by kernel_rfl) (by kernel_rfl) (fun _ _ _ h => absurd h.1 (by simp)) (Or.inl ⟨by rfl, ?_⟩) h0 ?_
          rotate_left
          · intro w hSw; (try dsimp only at hSw); go_simp; with_reducible rfl
          try simp only [Act.put, List.getElem_toArray, List.getElem_cons_succ, List.getElem_cons_zero, List.setIfInBounds_toArray, List.set_cons_zero, List.set_cons_succ]
          refine wpAnyH_take (i := 1) (v := ?_) rfl (by kernel_rfl) (by kernel_rfl) (by kernel_rfl) (fun _ _ _ h => absurd h.1 (by simp)) (Or.inl ⟨by rfl, ?_⟩) h0 ?_
          rotate_left
          · intro w hSw; (try dsimp only at hSw); go_simp; with_reducible rfl
          try simp only [Act.put, List.getElem_toArray, List.getElem_cons_succ, List.getElem_cons_zero, List.setIfInBounds_toArray, List.set_cons_zero, List.set_cons_succ]
          refine wpAnyH_take (i := 2) (v := ?_) rfl (by kernel_rfl) (by kernel_rfl) (by kernel_rfl) (fun _ _ _ h => absurd h.1 (by simp)) (Or.inl ⟨by rfl, ?_⟩) h0 ?_
          rotate_left
          · intro w hSw; (try dsimp only at hSw); go_simp; with_reducible rfl
          try simp only [Act.put, List.getElem_toArray, List.getElem_cons_succ, List.getElem_cons_zero, List.setIfInBounds_toArray, List.set_cons_zero, List.set_cons_succ]
          refine wpAnyH_take (i := 3) (v := ?_) rfl (by kernel_rfl) (by kernel_rfl) (by kernel_rfl) (fun _ _ _ h => absurd h.1 (by simp)) (Or.inl ⟨by rfl, ?_⟩) h0 ?_
          rotate_left
          · intro w hSw; (try dsimp only at hSw); go_simp; with_reducible rfl
          try simp only [Act.put, List.getElem_toArray, List.getElem_cons_succ, List.getElem_cons_zero, List.setIfInBounds_toArray, List.set_cons_zero, List.set_cons_succ]
          refine wpAnyH_take (i := 4) (v := ?_) rfl (by kernel_rfl) (by kernel_rfl) (by kernel_rfl) (fun _ _ _ h => absurd h.1 (by simp)) (Or.inl ⟨by rfl, ?_⟩) h0 ?_
          rotate_left
          · intro w hSw; (try dsimp only at hSw); go_simp; with_reducible rfl
          try simp only [Act.put, List.getElem_toArray, List.getElem_cons_succ, List.getElem_cons_zero, List.setIfInBounds_toArray, List.set_cons_zero, List.set_cons_succ]
          refine wpAnyH_take (i := 5) (v := ?_) rfl (by kernel_rfl) (by kernel_rfl) (by kernel_rfl) (fun _ _ _ h => absurd h.1 (by simp)) (Or.inl ⟨by rfl, ?_⟩) h0 ?_
          rotate_left
          · intro w hSw; (try dsimp only at hSw); go_simp; with_reducible rfl
          try simp only [Act.put, List.getElem_toArray, List.getElem_cons_succ, List.getElem_cons_zero, List.setIfInBounds_toArray, List.set_cons_zero, List.set_cons_succ]
          refine wpAnyH_take (i := 6) (v := ?_) rfl (by kernel_rfl) (by kernel_rfl) (by kernel_rfl) (fun _ _ _ h => absurd h.1 (by simp)) (Or.inl ⟨by rfl, ?_⟩) h0 ?_
          rotate_left
          · intro w hSw; (try dsimp only at hSw); go_simp; with_reducible rfl
          try simp only [Act.put, List.getElem_toArray, List.getElem_cons_succ, List.getElem_cons_zero, List.setIfInBounds_toArray, List.set_cons_zero, List.set_cons_succ]
          refine wpAnyH_take (i := 7) (v := ?_) rfl (by kernel_rfl) (by kernel_rfl) (by kernel_rfl) (fun _ _ _ h => absurd h.1 (by simp)) (Or.inl ⟨by kernel_rfl, ?_⟩) h0 ?_
          rotate_left
          · intro w hSw; (try dsimp only at hSw); go_simp; with_reducible rfl
          try simp only [Act.put, List.getElem_toArray, List.getElem_cons_succ, List.getElem_cons_zero, List.setIfInBounds_toArray, List.set_cons_zero, List.set_cons_succ]
          refine wpAnyH_take (i := 8) (v := ?_) rfl (by kernel_rfl) (by kernel_rfl) (by kernel_rfl) (fun _ _ _ h => absurd h.1 (by simp)) (Or.inl ⟨by kernel_rfl, ?_⟩) h0 ?_
          rotate_left
          · intro w hSw; (try dsimp only at hSw); go_simp; with_reducible rfl
          try simp only [Act.put, List.getElem_toArray, List.getElem_cons_succ, List.getElem_cons_zero, List.setIfInBounds_toArray, List.set_cons_zero, List.set_cons_succ]
          refine wpAnyH_take (i := 9) (v := ?_) rfl (by kernel_rfl) (by kernel_rfl) (by kernel_rfl) (fun _ _ _ h => absurd h.1 (by simp)) (Or.inl ⟨by kernel_rfl, ?_⟩) h0 ?_
          rotate_left
          · intro w hSw; (try dsimp only at hSw); go_simp; with_reducible rfl
          try simp only [Act.put, List.getElem_toArray, List.getElem_cons_succ, List.getElem_cons_zero, List.setIfInBounds_toArray, List.set_cons_zero, List.set_cons_succ]
          refine wpAnyH_take (i := 10) (v := ?_) rfl (by kernel_rfl) (by kernel_rfl) (by kernel_rfl) (fun _ _ _ h => absurd h.1 (by simp)) (Or.inl ⟨by kernel_rfl, ?_⟩) h0 ?_
          rotate_left
          · intro w hSw; (try dsimp only at hSw); go_simp; with_reducible rfl
          try simp only [Act.put, List.getElem_toArray, List.getElem_cons_succ, List.getElem_cons_zero, List.setIfInBounds_toArray, List.set_cons_zero, List.set_cons_succ]
          refine wpAnyH_ready (rs := [11]) (by kernel_rfl) (by simp) ?_
          refine AllReadyH.cons rfl (fun K hK => ?_) AllReadyH.nil
          go_simp
          refine (end_block .none V0).mono ?_
          rintro e w2 ⟨rfl, hb2⟩
          have hr2 := hrd.below hb2
          have hB2 := Bar.of_below (g := g) hb2
          refine hK.out _ _ hr2.cells.2.2.2 (fun h1 => ?_)
          clear hK K
          try simp only [Act.put, List.getElem_toArray, List.getElem_cons_succ, List.getElem_cons_zero, List.setIfInBounds_toArray, List.set_cons_zero, List.set_cons_succ]
          refine wpAnyH_ready (rs := [12]) (by kernel_rfl) (by simp) ?_
          refine AllReadyH.cons rfl (fun K hK => ?_) AllReadyH.nil
          go_simp
          obtain ⟨v, hv⟩ : ∃ v, sgB toks i 93 = v := ⟨_, rfl⟩
          refine (psign_to (v := v) (by simpa using hv) hr2).mono ?_
          rintro e w3 ⟨rfl, hb3, hs3, hr3⟩
          refine hK.out _ _ hr3.cells.2.2.2 (fun h2 => ?_)
          clear hK K
          try simp only [Act.put, List.getElem_toArray, List.getElem_cons_succ, List.getElem_cons_zero, List.setIfInBounds_toArray, List.set_cons_zero, List.set_cons_succ]
          refine wpAnyH_take (i := 13) (v := ?_) rfl (by kernel_rfl) (by kernel_rfl) (by kernel_rfl) (fun _ _ _ h => absurd h.1 (by simp)) (Or.inl ⟨by rfl, ?_⟩) h2 ?_
          rotate_left
          · intro w hSw; (try dsimp only at hSw); go_simp; with_reducible rfl
          try simp only [Act.put, List.getElem_toArray, List.getElem_cons_succ, List.getElem_cons_zero, List.setIfInBounds_toArray, List.set_cons_zero, List.set_cons_succ]
          refine wpAnyH_done (by kernel_rfl) ?_ _
          exact ⟨rfl, v, docA_of g v _ _ _ _ _ _ _ _ _ _ _ _ _ _ _ _ _ _ _ _ _ _ _ _ _ _ _, ⟨hr3, (hbd2.trans hB2).trans hb3, fun e => ⟨by omega, by rw [hv]; exact e⟩, fun e _ => by rw [hv]; exact e⟩, (hbd.trans hB2).trans hb3⟩
      · rintro e a V ⟨rfl, v, ⟨U, rfl⟩, hE, hbV⟩
        have HE := Lib.hid hE
        have HBV := Lib.hid hbV
        clear hE hbV
        dsimp only [DocA]
        cases v with
        | true =>
          obtain ⟨hmo1, hsg⟩ := HE.out.yes rfl
          cases fs with
          | nil => exfalso; have := hlen2.2; simp at this; omega
          | cons f fs' =>
            obtain ⟨mo', rfl⟩ : ∃ m', mo = m' + 1 := ⟨mo - 1, by omega⟩
            have hVs := HBV.out.size
            have h2V := H2.out.bar HBV.out g0
            have e1 : rowF (f :: fs') ++ cur = (rowF fs' ++ f.pre) ++ blk f.sty [] :: cur := by simp [rowF]
            have e2 : openF (f :: fs') = openF fs' ++ [((rowF fs' ++ f.pre).length : Int)] := rfl
            have e3 : (rowF fs' ++ f.pre).length + 1 + cur.length = n := by have := hlen2.1; rw [e1] at this; simp at this ⊢; omega
            rw [e1, e2] at h2V
            have hmol : mo' ≤ 1000000 := by
              have h7 := hlen2.2
              have h8 := openF_le (f :: fs')
              have h9 := hlen2.1
              simp at h7 h8 h9
              omega
            have HLV := Lib.hid (leave_any HE.out.rd h2V g0 (by omega) (by omega) hmol)
            have HSG := Lib.hid hsg
            clear h2V e1 e2 hlen2 hsg
            go_wp2_with fail
            refine HLV.out.mono ?_
            rintro e w5 ⟨⟨v5, rfl⟩, hr5, ht5, hk5⟩
            have hI5 : DocI toks size g M w w5 (i + 1) false A n c Ao mo' co s := by
              refine ⟨hr5, HE.out.bar.keep hk5, fun _ => ⟨fs', f.pre ++ (blk f.sty cur :: cur), ?_, by omega, HRUN.out.leave HSG.out⟩, fun e => (by cases e)⟩
              have e4 : ({ blk f.sty [] with size := (n : Int) - ((rowF fs' ++ f.pre).length : Nat) } : Nd) = blk f.sty cur := by
                unfold blk
                simp only [Nd.mk.injEq, true_and, and_true]
                omega
              rw [e4] at ht5
              rw [← List.append_assoc]
              exact ht5
            have HI5 := Lib.hid hI5
            have hms5 := hr5.meas
            clear hr5 ht5 hk5 hI5 HLV HE HBV HRUN H2 e3
            go_wp2_with fail
            go_roundw
            case rel => exact ⟨i + 1, false, A, n, c, Ao, mo', co, s, HI5.out⟩
            case measure => rw [hms5, hms]; simp; omega
        | false =>
          have hVs := HBV.out.size
          have H2V := Lib.hid (H2.out.bar HBV.out g0)
          have HLV := Lib.hid (HL.out.bar HR0.out HE.out.bar)
          have hmol : mo ≤ 1000000 := by
            have h7 := hlen2.2
            have h8 := openF_le fs
            have h9 := hlen2.1
            simp at h7 h8 h9
            omega
          by_cases ho : opens toks i = false
          · have HTH := Lib.hid (thing_none ho HE.out.rd)
            have HF := Lib.hid (fin_not HRUN.out hilt ho (fun e => HE.out.no rfl (by rw [← hlen2.2]; exact List.length_pos_iff.2 e)))
            clear ho hlen2
            go_wp2_with fail
            refine HTH.out.mono ?_
            rintro e w4 ⟨rfl, hb4, hr4⟩
            have HI4 := Lib.hid (show DocI toks size g M w w4 i true A n c Ao mo co s from ⟨hr4, HE.out.bar.trans hb4, fun e => (by cases e), fun _ => HF.out⟩)
            have hms4 := hr4.meas
            clear hb4 hr4 HTH
            go_wp2_with fail
            go_roundw
            case rel => exact ⟨i, true, A, n, c, Ao, mo, co, s, HI4.out⟩
            case measure => rw [hms4, hms]; simp
          · have ho : opens toks i = true := by simpa using ho
            have hop := ho
            unfold opens at ho
            simp only [Bool.or_eq_true] at ho
            rcases ho with ((ho | ho) | ho) | ho
            · have THV := Lib.hid (thing_block ho HLV.out HE.out.rd hlen)
              go_wp2_with fail
              refine THV.out.mono ?_
              rintro e w4 ⟨s', j, b', rfl, hb4, hr4, hp1, hp2⟩
              have hs4 := hb4.size
              have HPT := Lib.hid (rput_block s' hr4 (H2V.out.bar hb4 g0) g0 (by omega) (by omega) hmol)
              have HB4 := Lib.hid (HE.out.bar.trans hb4)
              have HP1 := Lib.hid (show b' = false → Attrs toks (i + 1) .plain [] (.ok s' j) from hp1)
              have HP2 := Lib.hid (show b' = true → AttrsBad toks (i + 1) j from hp2)
              have hj : i + 1 ≤ j := by
                cases b' with
                | false => have := (hp1 rfl).le; simp [Res.at_] at this; omega
                | true =>
                  rcases hp2 rfl with h | ⟨s2, h, _⟩
                  · have := h.le; simp [Res.at_] at this; omega
                  · have := h.le; simp [Res.at_] at this; omega
              clear hb4 hr4 THV hp1 hp2
              go_wp2_with fail
              refine HPT.out.mono ?_
              rintro e w5 ⟨⟨v5, rfl⟩, A', c', Ao', co', hr5, ht5, hk5⟩
              have hjl := hr5.le
              have hI5 : DocI toks size g M w w5 j b' A' (n + 1) c' Ao' (mo + 1) co' s' := by
                refine ⟨hr5, HB4.out.keep hk5, fun e => ⟨⟨s', cur⟩ :: fs, [], ?_, by omega, HRUN.out.enter ho (HP1.out e)⟩, fun e => fin_bad HRUN.out hop (block_bad ho (HP2.out e))⟩
                rw [show rowF (⟨s', cur⟩ :: fs) ++ [] = (rowF fs ++ cur) ++ [blk s' []] by simp [rowF], show openF (⟨s', cur⟩ :: fs) = openF fs ++ [((rowF fs ++ cur).length : Int)] from rfl, hlen2.1]
                exact ht5
              have HI5 := Lib.hid hI5
              have hms5 := hr5.meas
              clear hr5 ht5 hk5 hI5 HPT HB4 HP1 HP2 HE HBV HRUN H2 H2V HLV hlen2
              go_wp2_with fail
              go_roundw
              case rel => exact ⟨j, b', A', n + 1, c', Ao', mo + 1, co', s', HI5.out⟩
              case measure => rw [hms5, hms]; cases b' <;> simp <;> omega
            · obtain ⟨⟨n1, j1, b1⟩, hv1⟩ : ∃ q, numS toks (i + 1) false 1 maxN = q := ⟨_, rfl⟩
              obtain ⟨⟨n2, j2, b2⟩, hv2⟩ : ∃ q, numS toks j1 b1 0 maxN = q := ⟨_, rfl⟩
              obtain ⟨⟨n3, j3, b3⟩, hv3⟩ : ∃ q, numS toks j2 b2 1 maxN = q := ⟨_, rfl⟩
              have THV := Lib.hid (thing_text ho hv1 hv2 hv3 HE.out.rd hlen)
              have HV1 := Lib.hid hv1
              have HV2 := Lib.hid hv2
              have HV3 := Lib.hid hv3
              clear hv1 hv2 hv3
              go_wp2_with fail
              refine THV.out.mono ?_
              rintro e w4 ⟨Aw, mw, cw, j4, b4, ws, rfl, hws, how, hb4, hr4⟩
              have hs4 := hb4.size
              obtain ⟨⟨j, b'⟩, hv5⟩ : ∃ q, mustS toks j4 b4 41 = q := ⟨_, rfl⟩
              have hap : Other Aw mw cw Ao mo co := fun k hk e => by
                have h1 := owns_block how k hk
                have h2 := owns_block_lt H2V.out.opn k e
                omega
              have HPT := Lib.hid (rput_text n1 n2 Aw mw cw ws hv5 (owns_up how (by omega)) hap hr4 (H2V.out.bar hb4 g0) g0 (by omega) (by omega) hmol)
              have hone := one_text ho HV1.out HV2.out HV3.out hws hv5
              have HB4 := Lib.hid (HE.out.bar.trans hb4)
              have hj := one_gt hone
              have HONE := Lib.hid hone
              clear hb4 hr4 THV hone
              go_wp2_with fail
              refine HPT.out.mono ?_
              rintro e w5 ⟨⟨v5, rfl⟩, A', c', hr5, ht5, hk5⟩
              have hjl := hr5.le
              have hI5 : DocI toks size g M w w5 j b' A' (n + 1) c' Ao mo co s := by
                refine ⟨hr5, HB4.out.keep hk5, fun e => ⟨fs, cur ++ [_], ?_, by omega, HRUN.out.one hop (HONE.out.1 e)⟩, fun e => fin_bad HRUN.out hop (HONE.out.2 e)⟩
                rw [← List.append_assoc]
                exact ht5
              have HI5 := Lib.hid hI5
              have hms5 := hr5.meas
              clear hr5 ht5 hk5 hI5 HPT HB4 HONE HE HBV HRUN H2 H2V HLV hlen2
              go_wp2_with fail
              go_roundw
              case rel => exact ⟨j, b', A', n + 1, c', Ao, mo, co, s, HI5.out⟩
              case measure => rw [hms5, hms]; cases b' <;> simp <;> omega
            · obtain ⟨⟨n1, j1, b1⟩, hv1⟩ : ∃ q, numS toks (i + 1) false 1 maxN = q := ⟨_, rfl⟩
              obtain ⟨⟨n2, j2, b2⟩, hv2⟩ : ∃ q, numS toks j1 b1 1 maxN = q := ⟨_, rfl⟩
              have THV := Lib.hid (thing_box ho hv1 hv2 HE.out.rd)
              obtain ⟨⟨j, b'⟩, hv5⟩ : ∃ q, mustS toks j2 b2 125 = q := ⟨_, rfl⟩
              have HONE := Lib.hid (one_box ho hv1 hv2 hv5)
              have HV5 := Lib.hid hv5
              clear hv1 hv2 hv5
              go_wp2_with fail
              refine THV.out.mono ?_
              rintro e w4 ⟨rfl, hb4, hr4⟩
              have hs4 := hb4.size
              have HPT := Lib.hid (rput_box n1 n2 HV5.out hr4 (H2V.out.bar hb4 g0) g0 (by omega) (by omega) hmol)
              have hone := HONE.out
              have HB4 := Lib.hid (HE.out.bar.trans hb4)
              have hj := one_gt hone
              have HONE := Lib.hid hone
              clear hb4 hr4 THV hone
              go_wp2_with fail
              refine HPT.out.mono ?_
              rintro e w5 ⟨⟨v5, rfl⟩, A', c', hr5, ht5, hk5⟩
              have hjl := hr5.le
              have hI5 : DocI toks size g M w w5 j b' A' (n + 1) c' Ao mo co s := by
                refine ⟨hr5, HB4.out.keep hk5, fun e => ⟨fs, cur ++ [_], ?_, by omega, HRUN.out.one hop (HONE.out.1 e)⟩, fun e => fin_bad HRUN.out hop (HONE.out.2 e)⟩
                rw [← List.append_assoc]
                exact ht5
              have HI5 := Lib.hid hI5
              have hms5 := hr5.meas
              clear hr5 ht5 hk5 hI5 HPT HB4 HONE HE HBV HRUN H2 H2V HLV hlen2
              go_wp2_with fail
              go_roundw
              case rel => exact ⟨j, b', A', n + 1, c', Ao, mo, co, s, HI5.out⟩
              case measure => rw [hms5, hms]; cases b' <;> simp <;> omega
            · obtain ⟨⟨n0, j0, b0⟩, hv0⟩ : ∃ q, sideS toks (i + 1) false = q := ⟨_, rfl⟩
              obtain ⟨⟨n1, j1, b1⟩, hv1⟩ : ∃ q, numS toks j0 b0 1 maxN = q := ⟨_, rfl⟩
              obtain ⟨⟨n2, j2, b2⟩, hv2⟩ : ∃ q, numS toks j1 b1 1 maxN = q := ⟨_, rfl⟩
              have THV := Lib.hid (thing_float ho hv0 hv1 hv2 HE.out.rd)
              obtain ⟨⟨j, b'⟩, hv5⟩ : ∃ q, mustS toks j2 b2 62 = q := ⟨_, rfl⟩
              have HONE := Lib.hid (one_float ho hv0 hv1 hv2 hv5)
              have HV5 := Lib.hid hv5
              clear hv0 hv1 hv2 hv5
              go_wp2_with fail
              refine THV.out.mono ?_
              rintro e w4 ⟨rfl, hb4, hr4⟩
              have hs4 := hb4.size
              have HPT := Lib.hid (rput_float n0 n1 n2 HV5.out hr4 (H2V.out.bar hb4 g0) g0 (by omega) (by omega) hmol)
              have hone := HONE.out
              have HB4 := Lib.hid (HE.out.bar.trans hb4)
              have hj := one_gt hone
              have HONE := Lib.hid hone
              clear hb4 hr4 THV hone
              go_wp2_with fail
              refine HPT.out.mono ?_
              rintro e w5 ⟨⟨v5, rfl⟩, A', c', hr5, ht5, hk5⟩
              have hjl := hr5.le
              have hI5 : DocI toks size g M w w5 j b' A' (n + 1) c' Ao mo co s := by
                refine ⟨hr5, HB4.out.keep hk5, fun e => ⟨fs, cur ++ [_], ?_, by omega, HRUN.out.one hop (HONE.out.1 e)⟩, fun e => fin_bad HRUN.out hop (HONE.out.2 e)⟩
                rw [← List.append_assoc]
                exact ht5
              have HI5 := Lib.hid hI5
              have hms5 := hr5.meas
              clear hr5 ht5 hk5 hI5 HPT HB4 HONE HE HBV HRUN H2 H2V HLV hlen2
              go_wp2_with fail
              go_roundw
              case rel => exact ⟨j, b', A', n + 1, c', Ao, mo, co, s, HI5.out⟩
              case measure => rw [hms5, hms]; cases b' <;> simp <;> omega
end Go.Proofs.YtechccoongilcaaDoor
