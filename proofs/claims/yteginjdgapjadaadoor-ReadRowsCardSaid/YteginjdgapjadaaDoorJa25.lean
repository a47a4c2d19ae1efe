import Derived.Test.YteginjdgapjadaaDoorJa24
import Derived.Test.YteginjdgapjadaaDoorJa11
import Derived.Test.YteginjdgapjadaaDoorJa01
import Derived.Handy
import Derived.Test.YteginjdgapjadaaDoorJa23
import Derived.Test.YteginjdgapjadaaDoorJa02
import Derived.Deep.QuietTactic
import Derived.BigQuiet
import Derived.Test.YteginjdgapjadaaDoorJa16
import Derived.Test.YteginjdgapjadaaDoorJa08
/- The program's package read: Of and Is. -/
namespace Go.Proofs.YteginjdgapjadaaDoor
open Go.RowKit
set_option linter.unusedVariables false
set_option linter.unusedSimpArgs false
/-- what a script is read as, by the document's words. -/
def ReadB (s : ByteArray) (r : Option (List Nd) × Nat) : Prop := (∃ k, lexB s = (none, k) ∧ r = (none, k)) ∨ (∃ toks q, lexB s = (some toks, q) ∧ Read toks s.size r)
theorem ReadB.det {s : ByteArray} {r r' : Option (List Nd) × Nat} (h : ReadB s r) (h' : ReadB s r') : r = r' := by
  rcases h with ⟨k, h1, rfl⟩ | ⟨t, q, h1, h2⟩ <;> rcases h' with ⟨k', h1', rfl⟩ | ⟨t', q', h1', h2'⟩ <;> rw [h1] at h1'
  · injection h1' with _ h; rw [h]
  · injection h1' with h _; cases h
  · injection h1' with h _; cases h
  · injection h1' with h _; injection h with h; subst h; exact h2.det h2'
/-- what Of answers. -/
def OfPost (w : World) (s : ByteArray) (e : Ending) (w' : World) : Prop :=
  (∃ x A n c, ReadB s (some x, 0) ∧ e = .returned (.tuple #[.slice A n c, .int .i64 0, .int .i64 0]) ∧ Nds w.heap.size w' A n x ∧ Below w.heap.size w w') ∨
  (∃ k : Nat, ReadB s (none, k) ∧ e = .returned (.tuple #[.slice none 0 0, .int .i64 (k : Int), .int .i64 1]) ∧ Below w.heap.size w w')
theorem fin_place {s : ByteArray} {toks : List Tok} {q i : Nat} (h : lexB s = (some toks, q)) (hf : Fin toks (none, i)) : ∃ k : Nat, placeB toks s.size i = (k : Int) ∧ Read toks s.size (none, k) := by
  have hr := hf.read (len := s.size)
  have hp : placeB toks s.size i = ((placeB toks s.size i).toNat : Int) := by
    unfold placeB
    rcases ht : toks[i]? with _ | t
    · simp
    · obtain ⟨p, e, hp, _⟩ := tok_stands h ht
      simp only
      omega
  exact ⟨_, hp, hr⟩
set_option maxHeartbeats 4000000 in
theorem readof_any (s : ByteArray) (w : World) (hT : Tabs w) (hs : s.size ≤ 100000) : Calls Tryd.prog 8 #[.string s] w (OfPost w s) := by
  have HT := Lib.hid hT
  clear hT
  go_enter Tryd.func8, Tryd.ntmps8
  go_wp2_with fail
  refine (lexof_any s w HT.out hs).mono ?_
  rintro e w1 (⟨toks, A, n, c, hl, rfl, hR, ⟨hns, hnc, hA⟩, hb⟩ | ⟨k, hl, rfl, hk, hb⟩)
  · have HL := Lib.hid hl
    have HB := Lib.hid hb
    have hlen := hR.1
    have HNR := Lib.hid (newreader_any toks A n c (s.size : Int) w1 hR hnc hA)
    clear hl hR hA hb
    go_wp2_with fail
    refine HNR.out.mono ?_
    rintro e w2 ⟨rb, M, rfl, hrd, hlt, hb2⟩
    have HB2 := Lib.hid (HB.out.trans (hb2.mono HB.out.size))
    have HDC := Lib.hid (document_any hlt hrd (by omega))
    have hs2 := hb2.size
    have hs1 := HB.out.size
    clear hrd hlt hb2 HNR
    go_wp2_with fail
    refine HDC.out.mono ?_
    rintro e w3 ⟨v, i, b, A3, n3, c3, Ao, mo, co, s3, rfl, hd, hy, hn⟩
    have HB3 := Lib.hid (HB2.out.trans (hd.bar.below (B := w.heap.size) (by omega) (by omega)))
    have c3' := hd.rd.cells.2.2.1
    cases v with
    | true =>
      obtain ⟨x, hp, hx⟩ := hy rfl
      have HX := Lib.hid (hx.up (base' := w.heap.size) (by omega))
      have HP := Lib.hid (show ReadB s (some x, 0) from .inr ⟨toks, 0, HL.out, .ok hp⟩)
      clear hd hy hn hp hx HDC
      go_wp2_with fail
      go_returns
      exact .inl ⟨x, A3, n3, c3, HP.out, rfl, HX.out, HB3.out⟩
    | false =>
      obtain ⟨k, hk, hr⟩ := fin_place HL.out (hn rfl)
      have HP := Lib.hid (show ReadB s (none, k) from .inr ⟨toks, 0, HL.out, hr⟩)
      have HK := Lib.hid hk
      have HAT := Lib.hid (pat_to (len := s.size) rfl hd.rd)
      clear hd hy hn hr hk HDC
      go_wp2_with fail
      refine HAT.out.mono ?_
      rintro e w4 ⟨rfl, rfl⟩
      rw [HK.out]
      go_wp2_with fail
      go_returns
      exact .inr ⟨k, HP.out, rfl, HB3.out⟩
  · have HP := Lib.hid (show ReadB s (none, k) from .inl ⟨k, hl, rfl⟩)
    have HB := Lib.hid hb
    clear hl hb
    go_wp2_with fail
    go_returns
    exact .inr ⟨k, HP.out, rfl, HB.out⟩
/-- Is tells whether it is a document. -/
theorem readis_any (s : ByteArray) (w : World) (hT : Tabs w) (hs : s.size ≤ 100000) : Calls Tryd.prog 11 #[.string s] w fun e w' => ∃ r, ReadB s r ∧ e = .returned (.bool r.1.isSome) ∧ Below w.heap.size w w' := by
  go_enter Tryd.func11, Tryd.ntmps11
  go_wp2_with fail
  refine (readof_any s w hT hs).mono ?_
  rintro e w1 (⟨x, A, n, c, hr, rfl, hx, hb⟩ | ⟨k, hr, rfl, hb⟩)
  · have HP := Lib.hid hr
    have HB := Lib.hid hb
    clear hr hb hx
    go_wp2_with fail
    go_returns
    exact ⟨_, HP.out, rfl, HB.out⟩
  · have HP := Lib.hid hr
    have HB := Lib.hid hb
    clear hr hb
    go_wp2_with fail
    go_returns
    exact ⟨_, HP.out, rfl, HB.out⟩
end Go.Proofs.YteginjdgapjadaaDoor
/- The document's answers for package read: Of. -/
namespace Go.Proofs.YteginjdgapjadaaDoor
open Go.RowKit
set_option linter.unusedVariables false
set_option linter.unusedSimpArgs false
theorem rnodes_zero {toks : List Tok} {A : Option Addr} {n c' : Nat} {w : World} (hn : n ≤ 800000) (hR : Rows 4 encT w A n toks) : Calls Tryd.prog 25 #[.slice A n c', .int .i64 0] w (GotP toks true 0 w) := rnodes_all hn hR
set_option maxHeartbeats 4000000 in
theorem refof_any (s : ByteArray) (w : World) (hs : s.size ≤ 100000) : Calls Tryd.prog 9 #[.string s] w (OfPost w s) := by
  go_enter Tryd.func9, Tryd.ntmps9
  go_wp2_with fail
  refine (reflex_any s w hs).mono ?_
  rintro e w1 (⟨toks, A, n, c, hl, rfl, hR, ⟨hns, hnc, hA⟩, hb⟩ | ⟨k, hl, rfl, hk, hb⟩)
  · have HL := Lib.hid hl
    have HB := Lib.hid hb
    have hlen := hR.1
    have HR := Lib.hid hR
    clear hl hR hA hb
    go_wp2_with fail
    refine (rnodes_zero (by omega) HR.out).mono ?_
    rintro e w2 ⟨r, hp, hr⟩
    have hple := hp.le
    simp only [Nat.zero_le, forall_const] at hple
    have hs1 := HB.out.size
    cases r with
    | bad q =>
      obtain ⟨rfl, hbw⟩ := hr.bad
      have HR2 := Lib.hid ((HR.out.below hbw).below ((Below.refl _ _).alloc (Nat.le_refl _) (.cells #[.slice none 0 0, .int .i64 (q : Int), .int .i64 1] 54)))
      have HB2 := Lib.hid ((HB.out.trans (hbw.mono hs1)).alloc (by have := hbw.size; omega) (.cells #[.slice none 0 0, .int .i64 (q : Int), .int .i64 1] 54))
      obtain ⟨⟨t0, t1, t2⟩, _, t3⟩ := box3_of (box_new w2 [.slice none 0 0, .int .i64 (q : Int), .int .i64 1] 54 _ rfl _ rfl)
      have HP := Lib.hid hp
      have hq : q ≤ n := by have := hple.2.1; simp only [Res.at_] at this; omega
      clear hp hr hbw hple
      by_cases hlt : q < n
      · obtain ⟨bl, off, x, y, u, v, rfl, hbl, hx, c0, c1, c2, c3⟩ := toks_at HR2.out hlt
        obtain ⟨p, hv, _⟩ := tok_stands HL.out hx
        obtain rfl : v = (p : Int) := hv
        have HRB := Lib.hid (show ReadB s (none, p) from .inr ⟨toks, 0, HL.out, .bad HP.out hx⟩)
        have h1 : (q : Int) < (n : Int) := by omega
        clear hx
        go_wp2_with fail
        go_quiet (fail)
        go_wp2_with fail
        go_returns
        exact .inr ⟨p, HRB.out, rfl, below_drewN HB2.out _⟩
      · have HRB := Lib.hid (show ReadB s (none, s.size) from .inr ⟨toks, 0, HL.out, .short HP.out (by omega)⟩)
        have h1 : (n : Int) ≤ (q : Int) := by omega
        go_wp2_with fail
        go_returns
        exact .inr ⟨_, HRB.out, rfl, HB2.out⟩
    | ok x b =>
      obtain ⟨A1, m, c1, rfl, hnd, hbw⟩ := hr.ok
      have HR2 := Lib.hid ((HR.out.below hbw).below ((Below.refl _ _).alloc (Nat.le_refl _) (.cells #[.slice A1 m c1, .int .i64 (b : Int), .int .i64 0] 54)))
      have HB2 := Lib.hid ((HB.out.trans (hbw.mono hs1)).alloc (by have := hbw.size; omega) (.cells #[.slice A1 m c1, .int .i64 (b : Int), .int .i64 0] 54))
      have HN2 := Lib.hid (hnd.below ((Below.refl _ _).alloc (Nat.le_refl _) (.cells #[.slice A1 m c1, .int .i64 (b : Int), .int .i64 0] 54)))
      obtain ⟨⟨t0, t1, t2⟩, _, t3⟩ := box3_of (box_new w2 [.slice A1 m c1, .int .i64 (b : Int), .int .i64 0] 54 _ rfl _ rfl)
      have HP := Lib.hid hp
      have hq : b ≤ n := by have := hple.2.1; simp only [Res.at_] at this; omega
      clear hp hr hbw hple hnd
      by_cases hlt : b < n
      · obtain ⟨bl, off, x', y, u, v, rfl, hbl, hx, c0, c1, c2, c3⟩ := toks_at HR2.out hlt
        obtain ⟨p, hv, _⟩ := tok_stands HL.out hx
        obtain rfl : v = (p : Int) := hv
        have HRB := Lib.hid (show ReadB s (none, p) from .inr ⟨toks, 0, HL.out, .rest HP.out hx⟩)
        have h1 : (b : Int) < (n : Int) := by omega
        clear hx
        go_wp2_with fail
        go_quiet (fail)
        go_wp2_with fail
        go_returns
        exact .inr ⟨p, HRB.out, rfl, below_drewN HB2.out _⟩
      · obtain rfl : b = n := by omega
        have HRB := Lib.hid (show ReadB s (some x, 0) from .inr ⟨toks, 0, HL.out, .ok (by rw [hlen]; exact HP.out)⟩)
        have h1 : (b : Int) ≤ (b : Int) := by omega
        go_wp2_with fail
        go_returns
        exact .inl ⟨x, A1, m, c1, HRB.out, rfl, HN2.out.up (by omega), HB2.out⟩
  · have HP := Lib.hid (show ReadB s (none, k) from .inl ⟨k, hl, rfl⟩)
    have HB := Lib.hid hb
    clear hl hb
    go_wp2_with fail
    go_returns
    exact .inr ⟨k, HP.out, rfl, HB.out⟩
end Go.Proofs.YteginjdgapjadaaDoor
/- Two documents, one behind the other; a ] behind one; a script cut where it is refused. Nothing of the program's functions stands here. -/
namespace Go.Proofs.YteginjdgapjadaaDoor
open Go
set_option linter.unusedVariables false
set_option linter.unusedSimpArgs false
theorem ReadB.doc {s : ByteArray} {x : List Nd} (h : ReadB s (some x, 0)) : ∃ o q, lexB s = (some o, q) ∧ Parse o true 0 [] (.ok x o.length) := by
  rcases h with ⟨k, _, h2⟩ | ⟨o, q, h1, h2⟩
  · cases h2
  · generalize hz : ((some x, 0) : Option (List Nd) × Nat) = z at h2
    cases h2 with
    | ok h3 => injection hz with hz _; injection hz with hz; subst hz; exact ⟨o, q, h1, h3⟩
    | rest _ _ => cases hz
    | bad _ _ => cases hz
    | short _ _ => cases hz
section
variable {a b t : ByteArray} (h : Parted a b t)
include h
theorem both_ok {x y : List Nd} (ha : ReadB a (some x, 0)) (hb : ReadB b (some y, 0)) : ReadB t (some (x ++ y), 0) := by
  obtain ⟨o, q, h1, h2⟩ := ha.doc
  obtain ⟨l, q', h3, h4⟩ := hb.doc
  have ht := h.lexB_both h1
  rw [h3] at ht
  refine .inr ⟨_, _, ht, .ok ?_⟩
  have := h2.both (A := a.size + 1) h4
  rw [List.length_append, List.length_map]
  exact this
theorem both_bad {x : List Nd} {k : Nat} (ha : ReadB a (some x, 0)) (hb : ReadB b (none, k)) : ∃ k', ReadB t (none, k') := by
  obtain ⟨o, q, h1, h2⟩ := ha.doc
  have ht := h.lexB_both h1
  rcases hb with ⟨k', h3, _⟩ | ⟨l, q', h3, h4⟩
  · rw [h3] at ht
    exact ⟨_, .inl ⟨_, ht, rfl⟩⟩
  · rw [h3] at ht
    have hat : ∀ (p : Nat) (tk : Tok), l[p]? = some tk → (o ++ l.map (shiftT (a.size + 1)))[o.length + p]? = some (shiftT (a.size + 1) tk) := fun p tk hp => by
      rw [List.getElem?_append_right (by omega), Nat.add_sub_cancel_left, List.getElem?_map, hp]; rfl
    generalize hz : ((none, k) : Option (List Nd) × Nat) = z at h4
    cases h4 with
    | ok _ => cases hz
    | rest h5 h6 => exact ⟨_, .inr ⟨_, _, ht, .rest (h2.both (A := a.size + 1) h5) (hat _ _ h6)⟩⟩
    | bad h5 h6 => exact ⟨_, .inr ⟨_, _, ht, .bad (h2.both (A := a.size + 1) h5) (hat _ _ h6)⟩⟩
    | short h5 h6 => exact ⟨_, .inr ⟨_, _, ht, .short (h2.both (A := a.size + 1) h5) (by rw [List.length_append, List.length_map]; omega)⟩⟩
end
theorem bracket_bad {a t : ByteArray} (h : Parted a ⟨#[93]⟩ t) {x : List Nd} (ha : ReadB a (some x, 0)) : ReadB t (none, a.size + 1) := by
  obtain ⟨o, q, h1, h2⟩ := ha.doc
  have ht := h.lexB_both h1
  rw [show lexB ⟨#[93]⟩ = (some [⟨1, 93, 0, 0⟩], 0) by decide +kernel] at ht
  have hp : Parse [⟨1, 93, 0, 0⟩] true 0 [] (.ok [] 0) := .stop (by decide)
  have hb := h2.both (A := a.size + 1) hp
  have hx : (o ++ [(⟨1, 93, 0, 0⟩ : Tok)].map (shiftT (a.size + 1)))[o.length + 0]? = some ⟨1, 93, 0, 0 + ((a.size + 1 : Nat) : Int)⟩ := by
    rw [List.getElem?_append_right (by omega), Nat.add_sub_cancel_left]; rfl
  have hr := Read.rest (len := t.size) hb hx
  have he : (0 + ((a.size + 1 : Nat) : Int)).toNat = a.size + 1 := by omega
  simp only [he] at hr
  exact .inr ⟨_, _, ht, hr⟩
/-- refused at k: k lies within; cut there, it is a document or refused there, if its tokens may be. -/
theorem ReadB.place {s : ByteArray} {k : Nat} (h : ReadB s (none, k)) : k ≤ s.size ∨ ∃ p, lexB s = (none, p) ∧ k = p := by
  rcases h with ⟨p, h1, h2⟩ | ⟨o, q, h1, h2⟩
  · injection h2 with _ h2; exact .inr ⟨p, h1, h2⟩
  · exact .inl (read_place h1 h2)
theorem ReadB.cut {s a : ByteArray} {k : Nat} {o : List Tok} {q : Nat} (h : ReadB s (none, k)) (ho : lexB s = (some o, q)) (hh : Headed a s) (ha : a.size = k) : ∃ r, ReadB a r ∧ (r.1.isSome = true ∨ r = (none, k)) := by
  rcases h with ⟨p, h1, _⟩ | ⟨o', q', h1, h2⟩
  · rw [ho] at h1; injection h1 with h1 _; cases h1
  · obtain ⟨o2, q2, r, h3, h4, h5⟩ := read_cut h1 h2 hh ha
    exact ⟨r, .inr ⟨o2, q2, h3, h4⟩, h5⟩
end Go.Proofs.YteginjdgapjadaaDoor
/- Stage 5's laws: contracts by value; the functions that the laws share. -/
namespace Go.Proofs.YteginjdgapjadaaDoor
open Go.RowKit
set_option linter.unusedVariables false
set_option linter.unusedSimpArgs false
def ReadOk (w : World) (x : List Nd) (e : Ending) (w' : World) : Prop := ∃ A n c, e = .returned (.tuple #[.slice A n c, .int .i64 0, .int .i64 0]) ∧ Nds w.heap.size w' A n x ∧ Below w.heap.size w w'
theorem of_ok {w w' : World} {s : ByteArray} {e : Ending} {x : List Nd} (h : ReadB s (some x, 0)) (hp : OfPost w s e w') : ReadOk w x e w' := by
  rcases hp with ⟨x', A, n, c, h1, h2, h3, h4⟩ | ⟨k, h1, _⟩
  · have := h.det h1
    injection this with h5 _; injection h5 with h5; subst h5
    exact ⟨A, n, c, h2, h3, h4⟩
  · have := h.det h1
    injection this with h5 _; cases h5
theorem of_bad {w w' : World} {s : ByteArray} {e : Ending} {k : Nat} (h : ReadB s (none, k)) (hp : OfPost w s e w') : e = .returned (.tuple #[.slice none 0 0, .int .i64 (k : Int), .int .i64 1]) ∧ Below w.heap.size w w' := by
  rcases hp with ⟨x', A, n, c, h1, _⟩ | ⟨k', h1, h2, h3⟩
  · have := h.det h1
    injection this with h5 _; cases h5
  · have := h.det h1
    injection this with _ h5; subst h5
    exact ⟨h2, h3⟩
theorem pof_ok {s : ByteArray} {x : List Nd} (h : ReadB s (some x, 0)) (w : World) (hT : Tabs w) (hs : s.size ≤ 100000) : Calls Tryd.prog 8 #[.string s] w (ReadOk w x) := (readof_any s w hT hs).mono fun _ _ hp => of_ok h hp
theorem pof_bad {s : ByteArray} {k : Nat} (h : ReadB s (none, k)) (w : World) (hT : Tabs w) (hs : s.size ≤ 100000) : Calls Tryd.prog 8 #[.string s] w fun e w' => e = .returned (.tuple #[.slice none 0 0, .int .i64 (k : Int), .int .i64 1]) ∧ Below w.heap.size w w' := (readof_any s w hT hs).mono fun _ _ hp => of_bad h hp
theorem rof_ok {s : ByteArray} {x : List Nd} (h : ReadB s (some x, 0)) (w : World) (hs : s.size ≤ 100000) : Calls Tryd.prog 9 #[.string s] w (ReadOk w x) := (refof_any s w hs).mono fun _ _ hp => of_ok h hp
theorem rof_bad {s : ByteArray} {k : Nat} (h : ReadB s (none, k)) (w : World) (hs : s.size ≤ 100000) : Calls Tryd.prog 9 #[.string s] w fun e w' => e = .returned (.tuple #[.slice none 0 0, .int .i64 (k : Int), .int .i64 1]) ∧ Below w.heap.size w w' := (refof_any s w hs).mono fun _ _ hp => of_bad h hp
theorem readis_to {s : ByteArray} {r : Option (List Nd) × Nat} {v : Bool} (h : ReadB s r) (hv : r.1.isSome = v) (w : World) (hT : Tabs w) (hs : s.size ≤ 100000) : Calls Tryd.prog 11 #[.string s] w fun e w' => e = .returned (.bool v) ∧ Below w.heap.size w w' := (readis_any s w hT hs).mono fun e w' ⟨r', h1, h2, h3⟩ => by
  rw [h.det h1] at hv
  exact ⟨by rw [h2, hv], h3⟩
theorem rsame_to {a b : List Nd} {v : Bool} (hv : ndsB a b = v) {A B : Option Addr} {n m ca cb : Nat} (w : World) (ha : Sees w A n a) (hb : Sees w B m b) : Calls Tryd.prog 10 #[.slice A n ca, .slice B m cb] w fun e w' => e = .returned (.bool v) ∧ Below w.heap.size w w' := by
  subst hv; exact rsame_any a b A B n m ca cb w ha hb
theorem psame_to {a b : List Nd} {v : Bool} (hv : ndsB a b = v) {A B : Option Addr} {n m ca cb : Nat} (w : World) (ha : Sees w A n a) (hb : Sees w B m b) : Calls Tryd.prog 14 #[.slice A n ca, .slice B m cb] w fun e w' => e = .returned (.bool v) ∧ Below w.heap.size w w' := by
  subst hv; exact psame_any a b A B n m ca cb w ha hb
theorem ndsB_self (a : List Nd) : ndsB a a = true := by unfold ndsB; simp
theorem Sees.nil (w : World) : Sees w none 0 [] := ⟨[], Rows.nil _ _, rfl, fun i m x h => by simp at h⟩
/-- a script that is written out. -/
def evalF (s : ByteArray) : Option (Option (List Nd) × Nat) := match lexB s with
  | (some toks, 0) => readF toks s.size
  | (none, k) => some (none, k)
  | _ => none
theorem evalF_ok {s : ByteArray} {r : Option (List Nd) × Nat} (h : evalF s = some r) : ReadB s r := by
  unfold evalF at h
  split at h
  · rename_i toks h1; exact .inr ⟨toks, 0, h1, readF_ok h⟩
  · rename_i k h1; cases h; exact .inl ⟨k, h1, rfl⟩
  · cases h
theorem is_to {s : ByteArray} {x : List Nd} (h : ReadB s (some x, 0)) {A : Option Addr} {n c : Nat} (w : World) (hT : Tabs w) (hs : s.size ≤ 100000) (hx : Sees w A n x) : Calls Tryd.prog 18 #[.string s, .slice A n c] w fun e w' => e = .returned (.bool true) ∧ Below w.heap.size w w' := by
  have H := Lib.hid h
  have HT := Lib.hid hT
  have HX := Lib.hid hx
  clear h hT hx
  go_enter Tryd.func18, Tryd.ntmps18
  go_wp2_with fail
  refine (pof_ok H.out _ HT.out hs).mono ?_
  rintro e w1 ⟨A1, n1, c1, rfl, hN, hb⟩
  have HN := Lib.hid hN.sees
  have HX1 := Lib.hid (HX.out.below hb)
  have HB := Lib.hid hb
  clear hN hb
  go_wp2_with fail
  refine (rsame_to (ndsB_self x) _ HN.out HX1.out).mono ?_
  rintro e w2 ⟨rfl, hb⟩
  have HB2 := Lib.hid (below_then HB.out hb)
  clear hb
  go_wp2_with fail
  refine (readis_to H.out rfl _ (HT.out.below HB2.out) hs).mono ?_
  rintro e w3 ⟨rfl, hb⟩
  have HB3 := Lib.hid (below_then HB2.out hb)
  clear hb
  go_wp2_with fail
  go_ret
  exact ⟨rfl, HB3.out⟩
theorem wrong_at {s : ByteArray} {k : Nat} (h : ReadB s (none, k)) {z : Int} (hz : z = (k : Int)) (w : World) (hT : Tabs w) (hs : s.size ≤ 100000) : Calls Tryd.prog 20 #[.string s, .int .i64 z] w fun e w' => e = .returned (.bool true) ∧ Below w.heap.size w w' := by
  subst hz
  have H := Lib.hid h
  have HT := Lib.hid hT
  clear h hT
  go_enter Tryd.func20, Tryd.ntmps20
  go_wp2_with fail
  refine (pof_bad H.out _ HT.out hs).mono ?_
  rintro e w1 ⟨rfl, hb⟩
  have HB := Lib.hid hb
  clear hb
  go_wp2_with fail
  refine (readis_to H.out rfl _ (HT.out.below HB.out) hs).mono ?_
  rintro e w3 ⟨rfl, hb⟩
  have HB3 := Lib.hid (below_then HB.out hb)
  clear hb
  go_wp2_with fail
  go_ret
  exact ⟨rfl, HB3.out⟩
end Go.Proofs.YteginjdgapjadaaDoor
/- Stage 5's laws: the block that the laws make. (Written by program: tools/drafts/genlblock.py.) -/
namespace Go.Proofs.YteginjdgapjadaaDoor
open Go.RowKit
set_option linter.unusedVariables false
set_option linter.unusedSimpArgs false
def lblk (size top widows before : Int) : NdM := ⟨1, size, ⟨top, 0, 0, 0, 0, 2, widows, 0, before, 0, 0, 0⟩, 0, 0, none, 0, 0, 0, 0, 0⟩
set_option maxHeartbeats 4000000 in
set_option maxRecDepth 100000 in
theorem lblock_any (size top widows before : Int) (w : World) : Calls Tryd.prog 19 #[.int .i64 size, .int .i64 top, .int .i64 widows, .int .i64 before] w fun e w' => e = .returned (.agg (encM (lblk size top widows before)).toArray) ∧ Below w.heap.size w w' := by
  obtain ⟨D, hD⟩ : ∃ D, w.heap.size = D := ⟨_, rfl⟩
  rw [hD]
  go_enter Tryd.func19, Tryd.ntmps19
  go_wp2_with fail
  refine (plain_any _).mono ?_
  rintro e w1 ⟨rfl, hb⟩
  have HD0 := Lib.hid (show Blk w1 D 39 [.int .i64 0, .int .i64 0, .int .i64 0, .int .i64 0, .int .i64 0, .int .i64 0, .int .i64 0, .int .i64 0, .int .i64 0, .int .i64 0, .int .i64 0, .int .i64 0, .int .i64 0, .int .i64 0, .int .i64 0, .int .i64 0, .slice none 0 0, .int .i64 0, .int .i64 0, .int .i64 0] from (Blk.new w 39 [.int .i64 0, .int .i64 0, .int .i64 0, .int .i64 0, .int .i64 0, .int .i64 0, .int .i64 0, .int .i64 0, .int .i64 0, .int .i64 0, .int .i64 0, .int .i64 0, .int .i64 0, .int .i64 0, .int .i64 0, .int .i64 0, .slice none 0 0, .int .i64 0, .int .i64 0, .int .i64 0] D hD.symm _ rfl).on hb)
  have hB1 : Below D w w1 := ((Below.refl D w).alloc (by omega) _).trans (hb.mono (by simp; omega))
  have HB1 := Lib.hid hB1
  have hs1 : D < w1.heap.size := by have := hb.size; simp at this; omega
  clear hb hB1
  simp only [encS12, Sty.plain]
  go_wp2_with ((with_reducible refine stop_store 39 (.tmp 9) (.tmp 12) ?_ ?_); exact rfl)
  refine Stop.intro ?_
  refine wpList_store_row rfl 39 (.tmp 9) (.tmp 12) rfl w1.heap.size rfl 39 #[.int .i64 0, .int .i64 0, .int .i64 0, .int .i64 0, .int .i64 0, .int .i64 0, .int .i64 0, .int .i64 0, .int .i64 0, .int .i64 0, .int .i64 0, .int .i64 0, .int .i64 0, .int .i64 0, .int .i64 0, .int .i64 0, .slice none 0 0, .int .i64 0, .int .i64 0, .int .i64 0] #[.int .i64 1, .int .i64 size, .int .i64 0, .int .i64 0, .int .i64 0, .int .i64 0, .int .i64 0, .int .i64 2, .int .i64 2, .int .i64 0, .int .i64 0, .int .i64 0, .int .i64 0, .int .i64 0, .int .i64 0, .int .i64 0, .slice none 0 0, .int .i64 0, .int .i64 0, .int .i64 0] rfl (Blk.new w1 39 [.int .i64 0, .int .i64 0, .int .i64 0, .int .i64 0, .int .i64 0, .int .i64 0, .int .i64 0, .int .i64 0, .int .i64 0, .int .i64 0, .int .i64 0, .int .i64 0, .int .i64 0, .int .i64 0, .int .i64 0, .int .i64 0, .slice none 0 0, .int .i64 0, .int .i64 0, .int .i64 0] _ rfl _ rfl) (by kernel_rfl) rfl (by simp [Value.oneCell']) ?_
  intro V hV
  have hVs : V.heap.size = w1.heap.size + 1 := by rw [hV, setRow_size]; simp
  have hbV : On w1 V := by rw [hV]; exact below_setRow ((Below.refl _ _).alloc (Nat.le_refl _) _) (Nat.le_refl _) _
  have hK := show Blk V w1.heap.size 39 [.int .i64 1, .int .i64 size, .int .i64 0, .int .i64 0, .int .i64 0, .int .i64 0, .int .i64 0, .int .i64 2, .int .i64 2, .int .i64 0, .int .i64 0, .int .i64 0, .int .i64 0, .int .i64 0, .int .i64 0, .int .i64 0, .slice none 0 0, .int .i64 0, .int .i64 0, .int .i64 0] by rw [hV]; exact Blk.row (Blk.new w1 39 [.int .i64 0, .int .i64 0, .int .i64 0, .int .i64 0, .int .i64 0, .int .i64 0, .int .i64 0, .int .i64 0, .int .i64 0, .int .i64 0, .int .i64 0, .int .i64 0, .int .i64 0, .int .i64 0, .int .i64 0, .int .i64 0, .slice none 0 0, .int .i64 0, .int .i64 0, .int .i64 0] _ rfl _ rfl) _ _ rfl
  have HDV := Lib.hid (HD0.out.on hbV)
  have HBV := Lib.hid (HB1.out.trans (hbV.mono (by omega)))
  have HVs := Lib.hid hVs
  clear hV hVs
  have c2 := hK.box.2.2 2 _ rfl
  have c8 := hK.box.2.2 8 _ rfl
  have c10 := hK.box.2.2 10 _ rfl
  have f2 := hK.box.2.1 2
  have f8 := hK.box.2.1 8
  have f10 := hK.box.2.1 10
  have HK3 := Lib.hid (show Blk (((V.setCell ⟨w1.heap.size, 2, none⟩ (.int .i64 top)).setCell ⟨w1.heap.size, 8, none⟩ (.int .i64 widows)).setCell ⟨w1.heap.size, 10, none⟩ (.int .i64 before)) w1.heap.size 39 [.int .i64 1, .int .i64 size, .int .i64 top, .int .i64 0, .int .i64 0, .int .i64 0, .int .i64 0, .int .i64 2, .int .i64 widows, .int .i64 0, .int .i64 before, .int .i64 0, .int .i64 0, .int .i64 0, .int .i64 0, .int .i64 0, .slice none 0 0, .int .i64 0, .int .i64 0, .int .i64 0] from ((hK.set 2 (.int .i64 top)).set 8 (.int .i64 widows)).set 10 (.int .i64 before))
  have HD3 := Lib.hid (((HDV.out.set_other (m := w1.heap.size) (by omega) 2 (.int .i64 top)).set_other (m := w1.heap.size) (by omega) 8 (.int .i64 widows)).set_other (m := w1.heap.size) (by omega) 10 (.int .i64 before))
  have HB3 := Lib.hid (Below.setCell (Below.setCell (Below.setCell HBV.out (p := ⟨w1.heap.size, 2, none⟩) (by simp only; omega) (.int .i64 top)) (p := ⟨w1.heap.size, 8, none⟩) (by simp only; omega) (.int .i64 widows)) (p := ⟨w1.heap.size, 10, none⟩) (by simp only; omega) (.int .i64 before))
  clear hK hbV
  go_wp2_with (first | ((with_reducible refine stop_load 39 (.tmp 9) ?_ ?_); exact rfl; refine Stop.intro ?_; refine Go.Proofs.YteginjdgapjadaaDoor.wpList_load_row rfl 39 (.tmp 9) rfl (w1.heap.size) rfl 39 #[.int .i64 1, .int .i64 size, .int .i64 top, .int .i64 0, .int .i64 0, .int .i64 0, .int .i64 0, .int .i64 2, .int .i64 widows, .int .i64 0, .int .i64 before, .int .i64 0, .int .i64 0, .int .i64 0, .int .i64 0, .int .i64 0, .slice none 0 0, .int .i64 0, .int .i64 0, .int .i64 0] _ (HK3.out) Tryd.underlying39 rfl (by kernel_rfl) ?_) | ((with_reducible refine stop_store 39 (.tmp 8) (.tmp 22) ?_ ?_); exact rfl))
  refine Stop.intro ?_
  refine wpList_store_row rfl 39 (.tmp 8) (.tmp 22) rfl D rfl 39 #[.int .i64 0, .int .i64 0, .int .i64 0, .int .i64 0, .int .i64 0, .int .i64 0, .int .i64 0, .int .i64 0, .int .i64 0, .int .i64 0, .int .i64 0, .int .i64 0, .int .i64 0, .int .i64 0, .int .i64 0, .int .i64 0, .slice none 0 0, .int .i64 0, .int .i64 0, .int .i64 0] #[.int .i64 1, .int .i64 size, .int .i64 top, .int .i64 0, .int .i64 0, .int .i64 0, .int .i64 0, .int .i64 2, .int .i64 widows, .int .i64 0, .int .i64 before, .int .i64 0, .int .i64 0, .int .i64 0, .int .i64 0, .int .i64 0, .slice none 0 0, .int .i64 0, .int .i64 0, .int .i64 0] rfl HD3.out (by kernel_rfl) rfl (by simp [Value.oneCell']) ?_
  intro U hU
  have HU := Lib.hid (show Blk U D 39 [.int .i64 1, .int .i64 size, .int .i64 top, .int .i64 0, .int .i64 0, .int .i64 0, .int .i64 0, .int .i64 2, .int .i64 widows, .int .i64 0, .int .i64 before, .int .i64 0, .int .i64 0, .int .i64 0, .int .i64 0, .int .i64 0, .slice none 0 0, .int .i64 0, .int .i64 0, .int .i64 0] by rw [hU]; exact HD3.out.row _ _ rfl)
  have HBU := Lib.hid (show Below D w U by rw [hU]; exact below_setRow HB3.out (Nat.le_refl _) _)
  clear hU
  go_wp2_with fail
  refine bodyPost_ret (v := .agg #[.int .i64 1, .int .i64 size, .int .i64 top, .int .i64 0, .int .i64 0, .int .i64 0, .int .i64 0, .int .i64 2, .int .i64 widows, .int .i64 0, .int .i64 before, .int .i64 0, .int .i64 0, .int .i64 0, .int .i64 0, .int .i64 0, .slice none 0 0, .int .i64 0, .int .i64 0, .int .i64 0]) (results_cell (P := Tryd.prog) (te := 39) rfl rfl HU.out Tryd.underlying39 rfl (by kernel_rfl)) rfl ?_
  exact ⟨rfl, HBU.out⟩
end Go.Proofs.YteginjdgapjadaaDoor
