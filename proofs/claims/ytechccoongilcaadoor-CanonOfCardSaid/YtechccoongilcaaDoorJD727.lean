import Derived.Test.YtechccoongilcaaDoorJD725
import Derived.Test.YtechccoongilcaaDoorJD717
import Derived.Test.YtechccoongilcaaDoorJD722
import Derived.Test.YtechccoongilcaaDoorJD726
import Derived.Test.YtechccoongilcaaDoorJD712
import Derived.Test.YtechccoongilcaaDoorJD702
import Derived.Handy
import Derived.Test.YtechccoongilcaaDoorJD703
import Derived.Test.YtechccoongilcaaDoorJD708
import Derived.Deep.QuietTactic
import Derived.BigQuiet
import Derived.Test.YtechccoongilcaaDoorJD721
import Derived.Test.YtechccoongilcaaDoorJD720
import Derived.Test.YtechccoongilcaaDoorJD724
/- The document's answers for package read: nodes, whatever stands there. -/
namespace Go.Proofs.YtechccoongilcaaDoor
open Go.RowKit
set_option linter.unusedVariables false
set_option linter.unusedSimpArgs false
theorem rknot (toks : List Tok) (A : Option Addr) (n c' : Nat) (hn : n ≤ 800000) (hlen : toks.length = n) : ∀ m : Nat,
    (∀ (i : Nat) (w : World), i ≤ n → 2 * (n - i) + 1 ≤ m → Rows 4 encT w A n toks → Calls Tryd.prog 26 #[.slice A n c', .int .i64 i] w (GotP toks true i w)) ∧
    (∀ (b : Nat) (w : World), opens toks b = true → 2 * (n - b) ≤ m → Rows 4 encT w A n toks → Calls Tryd.prog 48 #[.slice A n c', .int .i64 b] w (GotP toks false b w))
  | 0 => ⟨fun i w _ h _ => absurd h (by omega), fun b w ho h _ => absurd (opens_lt ho) (by omega)⟩
  | m + 1 => by
    obtain ⟨ih1, ih2⟩ := rknot toks A n c' hn hlen m
    refine ⟨fun i w hi hm hR => ?_, fun b w ho hm hR => ?_⟩
    · exact rnodes_any toks A n c' i w hR hi (by omega) (fun b w' h1 h2 hR' ho => ih2 b w' ho (by omega) hR')
    · have hb := opens_lt ho
      exact rone_any toks A n c' b w hR (by omega) ho
        (fun w' hR' hs => rblock_any toks A n c' b w' hR' (by omega) (by omega) hs (fun a w'' h1 h2 hR'' => ih1 a w'' h2 (by omega) hR''))
        (fun w' hR' hs => rtext5_any toks A n c' b w' hR' (by omega) (by omega) hs)
theorem rnodes_all {toks : List Tok} {A : Option Addr} {n c' : Nat} {w : World} (hn : n ≤ 800000) (hR : Rows 4 encT w A n toks) : Calls Tryd.prog 26 #[.slice A n c', .int .i64 (0 : Nat)] w (GotP toks true 0 w) :=
  (rknot toks A n c' hn hR.1 _).1 0 w (by omega) (Nat.le_refl _) hR
end Go.Proofs.YtechccoongilcaaDoor
/- The program's package read: Of and Is. -/
namespace Go.Proofs.YtechccoongilcaaDoor
open Go.RowKit
set_option linter.unusedVariables false
set_option linter.unusedSimpArgs false
theorem fin_place {s : ByteArray} {toks : List Tok} {q i : Nat} (h : lexB s = (some toks, q)) (hf : Fin toks (none, i)) : ∃ k : Nat, placeB toks s.size i = (k : Int) ∧ Read toks s.size (none, k) := by
  have hr := hf.read (len := s.size)
  have hp : placeB toks s.size i = ((placeB toks s.size i).toNat : Int) := by
    unfold placeB
    rcases ht : toks[i]? with _ | t
    · simp
    · obtain ⟨p, e, hp, _⟩ := tok_stands h ht
      simp only
      omega
  exact ⟨_, hp, hr⟩
/-- what Of answers: the row's length is within its capacity. -/
def OfPostC (w : World) (s : ByteArray) (e : Ending) (w' : World) : Prop :=
  (∃ x A n c, ReadB s (some x, 0) ∧ e = .returned (.tuple #[.slice A n c, .int .i64 0, .int .i64 0]) ∧ Nds w.heap.size w' A n x ∧ Below w.heap.size w w' ∧ n ≤ c) ∨
  (∃ k : Nat, ReadB s (none, k) ∧ e = .returned (.tuple #[.slice none 0 0, .int .i64 (k : Int), .int .i64 1]) ∧ Below w.heap.size w w')
set_option maxHeartbeats 4000000 in
theorem readof_cap (s : ByteArray) (w : World) (hT : Tabs w) (hs : s.size ≤ 600000) : Calls Tryd.prog 8 #[.string s] w (OfPostC w s) := by
  have HT := Lib.hid hT
  clear hT
  go_enter Tryd.func8, Tryd.ntmps8
  go_wp2_with fail
  refine (lexof_any s w HT.out hs).mono ?_
  rintro e w1 (⟨toks, A, n, c, hl, rfl, hR, ⟨hns, hnc, hA⟩, hb⟩ | ⟨k, hl, rfl, hk, hb⟩)
  · have HL := Lib.hid hl
    have HB := Lib.hid hb
    have hlen := hR.1
    have HNR := Lib.hid (newreader_any toks A n c (s.size : Int) w1 hR hnc hA)
    clear hl hR hA hb
    go_wp2_with fail
    refine HNR.out.mono ?_
    rintro e w2 ⟨rb, M, rfl, hrd, hlt, hb2⟩
    have HB2 := Lib.hid (HB.out.trans (hb2.mono HB.out.size))
    have HDC := Lib.hid (document_any hlt hrd (by omega))
    have hs2 := hb2.size
    have hs1 := HB.out.size
    clear hrd hlt hb2 HNR
    go_wp2_with fail
    refine HDC.out.mono ?_
    rintro e w3 ⟨v, i, b, A3, n3, c3, Ao, mo, co, s3, rfl, hd, hy, hn⟩
    have HB3 := Lib.hid (HB2.out.trans (hd.bar.below (B := w.heap.size) (by omega) (by omega)))
    have c3' := hd.rd.cells.2.2.1
    cases v with
    | true =>
      obtain ⟨x, hp, hx, hcap⟩ := hy rfl
      have HX := Lib.hid (hx.up (base' := w.heap.size) (by omega))
      have HP := Lib.hid (show ReadB s (some x, 0) from .inr ⟨toks, 0, HL.out, .ok hp⟩)
      clear hd hy hn hp hx HDC
      go_wp2_with fail
      go_returns
      exact .inl ⟨x, A3, n3, c3, HP.out, rfl, HX.out, HB3.out, hcap⟩
    | false =>
      obtain ⟨k, hk, hr⟩ := fin_place HL.out (hn rfl)
      have HP := Lib.hid (show ReadB s (none, k) from .inr ⟨toks, 0, HL.out, hr⟩)
      have HK := Lib.hid hk
      have HAT := Lib.hid (pat_to (len := s.size) rfl hd.rd)
      clear hd hy hn hr hk HDC
      go_wp2_with fail
      refine HAT.out.mono ?_
      rintro e w4 ⟨rfl, rfl⟩
      rw [HK.out]
      go_wp2_with fail
      go_returns
      exact .inr ⟨k, HP.out, rfl, HB3.out⟩
  · have HP := Lib.hid (show ReadB s (none, k) from .inl ⟨k, hl, rfl⟩)
    have HB := Lib.hid hb
    clear hl hb
    go_wp2_with fail
    go_returns
    exact .inr ⟨k, HP.out, rfl, HB.out⟩
theorem readof_any (s : ByteArray) (w : World) (hT : Tabs w) (hs : s.size ≤ 600000) : Calls Tryd.prog 8 #[.string s] w (OfPost w s) :=
  (readof_cap s w hT hs).mono fun e w' h => h.imp (fun ⟨x, A, n, c, h1, h2, h3, h4, _⟩ => ⟨x, A, n, c, h1, h2, h3, h4⟩) id
end Go.Proofs.YtechccoongilcaaDoor
/- The document's answers for package read: Of. -/
namespace Go.Proofs.YtechccoongilcaaDoor
open Go.RowKit
set_option linter.unusedVariables false
set_option linter.unusedSimpArgs false
theorem rnodes_zero {toks : List Tok} {A : Option Addr} {n c' : Nat} {w : World} (hn : n ≤ 800000) (hR : Rows 4 encT w A n toks) : Calls Tryd.prog 26 #[.slice A n c', .int .i64 0] w (GotP toks true 0 w) := rnodes_all hn hR
set_option maxHeartbeats 4000000 in
theorem refof_any (s : ByteArray) (w : World) (hs : s.size ≤ 600000) : Calls Tryd.prog 12 #[.string s] w (OfPost w s) := by
  go_enter Tryd.func12, Tryd.ntmps12
  go_wp2_with fail
  refine (reflex_any s w hs).mono ?_
  rintro e w1 (⟨toks, A, n, c, hl, rfl, hR, ⟨hns, hnc, hA⟩, hb⟩ | ⟨k, hl, rfl, hk, hb⟩)
  · have HL := Lib.hid hl
    have HB := Lib.hid hb
    have hlen := hR.1
    have HR := Lib.hid hR
    clear hl hR hA hb
    go_wp2_with fail
    refine (rnodes_zero (by omega) HR.out).mono ?_
    rintro e w2 ⟨r, hp, hr⟩
    have hple := hp.le
    simp only [Nat.zero_le, forall_const] at hple
    have hs1 := HB.out.size
    cases r with
    | bad q =>
      obtain ⟨rfl, hbw⟩ := hr.bad
      have HR2 := Lib.hid ((HR.out.below hbw).below ((Below.refl _ _).alloc (Nat.le_refl _) (.cells #[.slice none 0 0, .int .i64 (q : Int), .int .i64 1] 67)))
      have HB2 := Lib.hid ((HB.out.trans (hbw.mono hs1)).alloc (by have := hbw.size; omega) (.cells #[.slice none 0 0, .int .i64 (q : Int), .int .i64 1] 67))
      obtain ⟨⟨t0, t1, t2⟩, _, t3⟩ := box3_of (box_new w2 [.slice none 0 0, .int .i64 (q : Int), .int .i64 1] 67 _ rfl _ rfl)
      have HP := Lib.hid hp
      have hq : q ≤ n := by have := hple.2.1; simp only [Res.at_] at this; omega
      clear hp hr hbw hple
      by_cases hlt : q < n
      · obtain ⟨bl, off, x, y, u, v, rfl, hbl, hx, c0, c1, c2, c3⟩ := toks_at HR2.out hlt
        obtain ⟨p, hv, _⟩ := tok_stands HL.out hx
        obtain rfl : v = (p : Int) := hv
        have HRB := Lib.hid (show ReadB s (none, p) from .inr ⟨toks, 0, HL.out, .bad HP.out hx⟩)
        have h1 : (q : Int) < (n : Int) := by omega
        clear hx
        go_wp2_with fail
        go_quiet (fail)
        go_wp2_with fail
        go_returns
        exact .inr ⟨p, HRB.out, rfl, below_drewN HB2.out _⟩
      · have HRB := Lib.hid (show ReadB s (none, s.size) from .inr ⟨toks, 0, HL.out, .short HP.out (by omega)⟩)
        have h1 : (n : Int) ≤ (q : Int) := by omega
        go_wp2_with fail
        go_returns
        exact .inr ⟨_, HRB.out, rfl, HB2.out⟩
    | ok x b =>
      obtain ⟨A1, m, c1, rfl, hnd, hbw⟩ := hr.ok
      have HR2 := Lib.hid ((HR.out.below hbw).below ((Below.refl _ _).alloc (Nat.le_refl _) (.cells #[.slice A1 m c1, .int .i64 (b : Int), .int .i64 0] 67)))
      have HB2 := Lib.hid ((HB.out.trans (hbw.mono hs1)).alloc (by have := hbw.size; omega) (.cells #[.slice A1 m c1, .int .i64 (b : Int), .int .i64 0] 67))
      have HN2 := Lib.hid (hnd.below ((Below.refl _ _).alloc (Nat.le_refl _) (.cells #[.slice A1 m c1, .int .i64 (b : Int), .int .i64 0] 67)))
      obtain ⟨⟨t0, t1, t2⟩, _, t3⟩ := box3_of (box_new w2 [.slice A1 m c1, .int .i64 (b : Int), .int .i64 0] 67 _ rfl _ rfl)
      have HP := Lib.hid hp
      have hq : b ≤ n := by have := hple.2.1; simp only [Res.at_] at this; omega
      clear hp hr hbw hple hnd
      by_cases hlt : b < n
      · obtain ⟨bl, off, x', y, u, v, rfl, hbl, hx, c0, c1, c2, c3⟩ := toks_at HR2.out hlt
        obtain ⟨p, hv, _⟩ := tok_stands HL.out hx
        obtain rfl : v = (p : Int) := hv
        have HRB := Lib.hid (show ReadB s (none, p) from .inr ⟨toks, 0, HL.out, .rest HP.out hx⟩)
        have h1 : (b : Int) < (n : Int) := by omega
        clear hx
        go_wp2_with fail
        go_quiet (fail)
        go_wp2_with fail
        go_returns
        exact .inr ⟨p, HRB.out, rfl, below_drewN HB2.out _⟩
      · obtain rfl : b = n := by omega
        have HRB := Lib.hid (show ReadB s (some x, 0) from .inr ⟨toks, 0, HL.out, .ok (by rw [hlen]; exact HP.out)⟩)
        have h1 : (b : Int) ≤ (b : Int) := by omega
        go_wp2_with fail
        go_returns
        exact .inl ⟨x, A1, m, c1, HRB.out, rfl, HN2.out.up (by omega), HB2.out⟩
  · have HP := Lib.hid (show ReadB s (none, k) from .inl ⟨k, hl, rfl⟩)
    have HB := Lib.hid hb
    clear hl hb
    go_wp2_with fail
    go_returns
    exact .inr ⟨k, HP.out, rfl, HB.out⟩
end Go.Proofs.YtechccoongilcaaDoor
/- Two documents, one behind the other; a ] behind one; a script cut where it is refused. Nothing of the program's functions stands here. -/
namespace Go.Proofs.YtechccoongilcaaDoor
open Go
set_option linter.unusedVariables false
set_option linter.unusedSimpArgs false
theorem ReadB.doc {s : ByteArray} {x : List Nd} (h : ReadB s (some x, 0)) : ∃ o q, lexB s = (some o, q) ∧ Parse o true 0 [] (.ok x o.length) := by
  rcases h with ⟨k, _, h2⟩ | ⟨o, q, h1, h2⟩
  · cases h2
  · generalize hz : ((some x, 0) : Option (List Nd) × Nat) = z at h2
    cases h2 with
    | ok h3 => injection hz with hz _; injection hz with hz; subst hz; exact ⟨o, q, h1, h3⟩
    | rest _ _ => cases hz
    | bad _ _ => cases hz
    | short _ _ => cases hz
section
variable {a b t : ByteArray} (h : Parted a b t)
include h
theorem both_ok {x y : List Nd} (ha : ReadB a (some x, 0)) (hb : ReadB b (some y, 0)) : ReadB t (some (x ++ y), 0) := by
  obtain ⟨o, q, h1, h2⟩ := ha.doc
  obtain ⟨l, q', h3, h4⟩ := hb.doc
  have ht := h.lexB_both h1
  rw [h3] at ht
  refine .inr ⟨_, _, ht, .ok ?_⟩
  have := h2.both (A := a.size + 1) h4
  rw [List.length_append, List.length_map]
  exact this
theorem both_bad {x : List Nd} {k : Nat} (ha : ReadB a (some x, 0)) (hb : ReadB b (none, k)) : ∃ k', ReadB t (none, k') := by
  obtain ⟨o, q, h1, h2⟩ := ha.doc
  have ht := h.lexB_both h1
  rcases hb with ⟨k', h3, _⟩ | ⟨l, q', h3, h4⟩
  · rw [h3] at ht
    exact ⟨_, .inl ⟨_, ht, rfl⟩⟩
  · rw [h3] at ht
    have hat : ∀ (p : Nat) (tk : Tok), l[p]? = some tk → (o ++ l.map (shiftT (a.size + 1)))[o.length + p]? = some (shiftT (a.size + 1) tk) := fun p tk hp => by
      rw [List.getElem?_append_right (by omega), Nat.add_sub_cancel_left, List.getElem?_map, hp]; rfl
    generalize hz : ((none, k) : Option (List Nd) × Nat) = z at h4
    cases h4 with
    | ok _ => cases hz
    | rest h5 h6 => exact ⟨_, .inr ⟨_, _, ht, .rest (h2.both (A := a.size + 1) h5) (hat _ _ h6)⟩⟩
    | bad h5 h6 => exact ⟨_, .inr ⟨_, _, ht, .bad (h2.both (A := a.size + 1) h5) (hat _ _ h6)⟩⟩
    | short h5 h6 => exact ⟨_, .inr ⟨_, _, ht, .short (h2.both (A := a.size + 1) h5) (by rw [List.length_append, List.length_map]; omega)⟩⟩
end
theorem bracket_bad {a t : ByteArray} (h : Parted a ⟨#[93]⟩ t) {x : List Nd} (ha : ReadB a (some x, 0)) : ReadB t (none, a.size + 1) := by
  obtain ⟨o, q, h1, h2⟩ := ha.doc
  have ht := h.lexB_both h1
  rw [show lexB ⟨#[93]⟩ = (some [⟨1, 93, 0, 0⟩], 0) by decide +kernel] at ht
  have hp : Parse [⟨1, 93, 0, 0⟩] true 0 [] (.ok [] 0) := .stop (by decide)
  have hb := h2.both (A := a.size + 1) hp
  have hx : (o ++ [(⟨1, 93, 0, 0⟩ : Tok)].map (shiftT (a.size + 1)))[o.length + 0]? = some ⟨1, 93, 0, 0 + ((a.size + 1 : Nat) : Int)⟩ := by
    rw [List.getElem?_append_right (by omega), Nat.add_sub_cancel_left]; rfl
  have hr := Read.rest (len := t.size) hb hx
  have he : (0 + ((a.size + 1 : Nat) : Int)).toNat = a.size + 1 := by omega
  simp only [he] at hr
  exact .inr ⟨_, _, ht, hr⟩
/-- refused at k: k lies within; cut there, it is a document or refused there, if its tokens may be. -/
theorem ReadB.place {s : ByteArray} {k : Nat} (h : ReadB s (none, k)) : k ≤ s.size ∨ ∃ p, lexB s = (none, p) ∧ k = p := by
  rcases h with ⟨p, h1, h2⟩ | ⟨o, q, h1, h2⟩
  · injection h2 with _ h2; exact .inr ⟨p, h1, h2⟩
  · exact .inl (read_place h1 h2)
theorem ReadB.cut {s a : ByteArray} {k : Nat} {o : List Tok} {q : Nat} (h : ReadB s (none, k)) (ho : lexB s = (some o, q)) (hh : Headed a s) (ha : a.size = k) : ∃ r, ReadB a r ∧ (r.1.isSome = true ∨ r = (none, k)) := by
  rcases h with ⟨p, h1, _⟩ | ⟨o', q', h1, h2⟩
  · rw [ho] at h1; injection h1 with h1 _; cases h1
  · obtain ⟨o2, q2, r, h3, h4, h5⟩ := read_cut h1 h2 hh ha
    exact ⟨r, .inr ⟨o2, q2, h3, h4⟩, h5⟩
theorem doc_len {s : ByteArray} {x : List Nd} (h : ReadB s (some x, 0)) : x.length ≤ s.size := by
  obtain ⟨o, q, h1, h2⟩ := h.doc
  have h3 := h2.len _ _ rfl
  have h4 := lexF_len _ _ _ _ _ _ (by omega) h1
  simp only [List.length_nil, Nat.zero_add, Nat.add_zero] at h3 h4
  omega
end Go.Proofs.YtechccoongilcaaDoor
/- A canonical text is no longer than so many of its script's bytes. Nothing of the program stands here. -/
namespace Go.Proofs.YtechccoongilcaaDoor
open Go
set_option linter.unusedVariables false
set_option linter.unusedSimpArgs false
theorem attr_tok (c n p : Int) : tokN (attrP c n p) ≤ 2 := by
  unfold attrP
  split
  · exact Nat.zero_le _
  · exact Nat.le_refl 2
theorem attr_pieces (c n p : Int) : (attrP c n p).length = tokN (attrP c n p) := by
  unfold attrP
  split <;> rfl
theorem sty_pieces (s : Sty) : (styP s).length = tokN (styP s) := by
  unfold styP
  simp only [List.length_append, tokN_append, attr_pieces]
theorem with_tok (s : Sty) (c n : Int) : tokN (styP (withB s c n)) ≤ tokN (styP s) + 2 := by
  have h1 := attr_tok 109 n 0
  have h2 := attr_tok 110 n 0
  have h3 := attr_tok 112 n 0
  have h4 := attr_tok 113 n 0
  have h5 := attr_tok 105 n 0
  have h6 := attr_tok 111 n 2
  have h7 := attr_tok 119 n 2
  have h8 := attr_tok 104 n 0
  have h9 := attr_tok 66 n 0
  have h10 := attr_tok 65 n 0
  have h11 := attr_tok 73 n 0
  have h12 := attr_tok 99 n 0
  obtain ⟨s0, s1, s2, s3, s4, s5, s6, s7, s8, s9, s10, s11⟩ := s
  unfold withB
  by_cases e0 : c = 109
  · rw [if_pos e0]; simp only [styP, tokN_append]; omega
  rw [if_neg e0]
  by_cases e1 : c = 110
  · rw [if_pos e1]; simp only [styP, tokN_append]; omega
  rw [if_neg e1]
  by_cases e2 : c = 112
  · rw [if_pos e2]; simp only [styP, tokN_append]; omega
  rw [if_neg e2]
  by_cases e3 : c = 113
  · rw [if_pos e3]; simp only [styP, tokN_append]; omega
  rw [if_neg e3]
  by_cases e4 : c = 105
  · rw [if_pos e4]; simp only [styP, tokN_append]; omega
  rw [if_neg e4]
  by_cases e5 : c = 111
  · rw [if_pos e5]; simp only [styP, tokN_append]; omega
  rw [if_neg e5]
  by_cases e6 : c = 119
  · rw [if_pos e6]; simp only [styP, tokN_append]; omega
  rw [if_neg e6]
  by_cases e7 : c = 104
  · rw [if_pos e7]; simp only [styP, tokN_append]; omega
  rw [if_neg e7]
  by_cases e8 : c = 66
  · rw [if_pos e8]; simp only [styP, tokN_append]; omega
  rw [if_neg e8]
  by_cases e9 : c = 65
  · rw [if_pos e9]; simp only [styP, tokN_append]; omega
  rw [if_neg e9]
  by_cases e10 : c = 73
  · rw [if_pos e10]; simp only [styP, tokN_append]; omega
  rw [if_neg e10]
  by_cases e11 : c = 99
  · rw [if_pos e11]; simp only [styP, tokN_append]; omega
  rw [if_neg e11]
  omega
theorem Attrs.tok {l : List Tok} {i : Nat} {s : Sty} {told : List Int} {r : Res Sty} (h : Attrs l i s told r) : ∀ s' a, r = .ok s' a → tokN (styP s') + i ≤ tokN (styP s) + a := by
  induction h with
  | stop _ => intro s' a e; cases e; exact Nat.le_refl _
  | bad _ _ => intro s' a e; cases e
  | @step i s told r h1 h2 _ ih =>
    intro s' a e
    have h3 := ih s' a e
    have h4 := with_tok s (letterB l i told) (nAt l (i + 1))
    omega
theorem Words.tok {l : List Tok} {k : Nat} {out ws : List Int} {b : Nat} (h : Words l k out ws b) : ws.length + k = out.length + b := by
  induction h with
  | stop _ => rfl
  | step _ _ ih => rw [List.length_append, List.length_singleton] at ih; omega
theorem tok_leaf_text (line space : Int) (ws : List Int) : tokN (canP [] [txt line space ws]) = 4 + ws.length := by
  have h := canP_cons [] (txt line space ws) [] [] rfl
  have hl : leafP (txt line space ws) = [.s 40, .n line.toNat, .b 32, .n space.toNat] ++ wordsP ws ++ [.s 41] := rfl
  rw [show canP [] [txt line space ws] = _ from h, canP_nil, if_neg (show ¬ (txt line space ws).kind = 1 from (show ¬ (2 : Int) = 1 by decide)), hl]
  simp only [tokN_append, tok_words, tokN]
  omega
theorem tok_leaf_box (kind side w h : Int) (hk : kind = 3 ∨ kind = 4 ∧ (side = 1 ∨ side = 2)) : tokN (canP [] [box_ kind side w h]) = (if kind = 3 then 4 else 5) := by
  have e := canP_cons [] (box_ kind side w h) [] [] rfl
  rw [show canP [] [box_ kind side w h] = _ from e, canP_nil]
  rcases hk with rfl | ⟨rfl, rfl | rfl⟩
  · rw [if_neg (show ¬ (box_ 3 side w h).kind = 1 from (show ¬ (3 : Int) = 1 by decide))]; rfl
  · rw [if_neg (show ¬ (box_ 4 1 w h).kind = 1 from (show ¬ (4 : Int) = 1 by decide))]; rfl
  · rw [if_neg (show ¬ (box_ 4 2 w h).kind = 1 from (show ¬ (4 : Int) = 1 by decide))]; rfl
theorem boxR_tok {l : List Tok} {i : Nat} {kind side e : Int} {x : List Nd} {b : Nat} (hk : kind = 3 ∨ kind = 4 ∧ (side = 1 ∨ side = 2)) (h : boxR l i kind side e = .ok x b) : b = i + 3 ∧ tokN (canP [] x) = (if kind = 3 then 4 else 5) := by
  unfold boxR at h
  split at h
  · cases h
  split at h
  · cases h
  split at h
  · cases h
  · cases h
    exact ⟨rfl, tok_leaf_box _ _ _ _ hk⟩
theorem Parse.tok {l : List Tok} {t : Bool} {i : Nat} {out : List Nd} {r : Res (List Nd)} (h : Parse l t i out r) : Forest out → ∀ x b, r = .ok x b → tokN (canP [] x) + i ≤ tokN (canP [] out) + b := by
  induction h with
  | stop _ => intro _ x b e; cases e; exact Nat.le_refl _
  | more _ hp _ ih1 ih2 =>
    intro hf x b e
    have hf1 := hp.forest .nil _ _ rfl
    have h1 := ih1 .nil _ _ rfl
    have h2 := ih2 (hf.append hf1) x b e
    rw [canP_append [] hf, tokN_append] at h2
    rw [canP_nil] at h1
    simp only [tokN] at h1
    omega
  | fail _ _ _ => intro _ x b e; cases e
  | blockA _ _ => intro _ x b e; cases e
  | blockN _ _ _ _ => intro _ x b e; cases e
  | blockE _ _ _ _ _ => intro _ x b e; cases e
  | @block i s a inner b0 _ ha hp _ ih =>
    intro _ x b e
    cases e
    have h1 := ha.tok _ _ rfl
    have h2 := ih .nil _ _ rfl
    have h3 := canP_cons [] (blk s inner) inner [] rfl
    rw [List.append_nil, canP_nil, List.append_nil, List.append_nil, if_pos (show (blk s inner).kind = 1 from rfl)] at h3
    rw [h3]
    rw [canP_nil] at h2 ⊢
    have h4 : tokN (styP Sty.plain) = 0 := rfl
    have h5 : (blk s inner).sty = s := rfl
    simp only [tokN_append, tokN, h5] at h1 h2 ⊢
    omega
  | textL _ _ => intro _ x b e; cases e
  | textS _ _ _ => intro _ x b e; cases e
  | textW _ _ _ _ _ => intro _ x b e; cases e
  | text _ _ _ hw _ _ =>
    intro _ x b e
    cases e
    have h1 := hw.tok
    rw [tok_leaf_text, canP_nil]
    simp only [tokN, List.length_nil] at h1 ⊢
    omega
  | mono _ =>
    intro _ x b e
    obtain ⟨h1, h2⟩ := boxR_tok (.inl rfl) e
    rw [h2, if_pos rfl, h1]
    omega
  | left _ _ =>
    intro _ x b e
    obtain ⟨h1, h2⟩ := boxR_tok (.inr ⟨rfl, .inl rfl⟩) e
    rw [h2, if_neg (by decide), h1]
    omega
  | right _ _ =>
    intro _ x b e
    obtain ⟨h1, h2⟩ := boxR_tok (.inr ⟨rfl, .inr rfl⟩) e
    rw [h2, if_neg (by decide), h1]
    omega
  | side _ _ _ => intro _ x b e; cases e
theorem words_pieces (ws : List Int) : (wordsP ws).length = 2 * tokN (wordsP ws) := by rw [wordsP_len, tok_words]
theorem leaf_pieces {x : Nd} (h : x.fits) (hk : x.kind ≠ 1) : (leafP x).length + 1 ≤ 2 * tokN (leafP x) ∧ x.words.length ≤ tokN (leafP x) := by
  unfold leafP
  rcases h with ⟨e, _⟩ | ⟨e, _⟩ | ⟨e, _, _, _, hw, _⟩ | ⟨e, _, _, _, hw, _, _, h1, h2⟩
  · exact absurd e hk
  · rw [if_pos e]
    have := wordsP_len x.words
    simp only [List.length_append, tokN_append, tok_words, tokN, List.length_cons, List.length_nil]
    omega
  · rw [if_neg (by omega), if_pos e, hw]
    exact ⟨by simp [tokN], Nat.zero_le _⟩
  · rw [if_neg (by omega), if_neg (by omega), hw]
    rcases (show x.side = 1 ∨ x.side = 2 by omega) with hs | hs
    · rw [if_pos ⟨e, hs⟩]; exact ⟨by simp [tokN], Nat.zero_le _⟩
    · rw [if_neg (by omega), if_pos ⟨e, hs⟩]; exact ⟨by simp [tokN], Nat.zero_le _⟩
theorem can_pieces {l : List Nd} (hF : Forest l) : (∀ x ∈ l, x.fits) → ∀ (b : List Pc), b.length ≤ 1 → tokN b = 0 → (canP b l).length ≤ 2 * tokN (canP [] l) ∧ ∀ x ∈ l, x.words.length ≤ tokN (canP [] l) := by
  induction hF with
  | nil => intro _ b _ _; exact ⟨by simp [canP_nil], fun x hx => by cases hx⟩
  | @cons x inner rest hs hk h1 h2 ih1 ih2 =>
    intro hf b hb ht
    have hx := hf x (by simp)
    obtain ⟨e1, e1'⟩ := ih1 (fun y hy => hf y (by simp [hy])) [] (by simp) rfl
    obtain ⟨e2, e2'⟩ := ih2 (fun y hy => hf y (by simp [hy])) b hb ht
    rw [canP_cons b x inner rest hs, canP_cons [] x inner rest hs]
    simp only [List.length_append, tokN_append, List.append_nil]
    by_cases h1 : x.kind = 1
    · rw [if_pos h1]
      have e3 := sty_pieces x.sty
      simp only [List.length_append, tokN_append, List.length_cons, List.length_nil, tokN]
      refine ⟨by omega, fun y hy => ?_⟩
      have hw1 : x.words = [] := by
        rcases hx with ⟨_, _, _, _, hw, _⟩ | ⟨e, _⟩ | ⟨e, _⟩ | ⟨e, _⟩
        · exact hw
        · omega
        · omega
        · omega
      rcases List.mem_cons.1 hy with rfl | hy
      · rw [hw1]; exact Nat.zero_le _
      rcases List.mem_append.1 hy with hy | hy
      · have := e1' y hy; omega
      · have := e2' y hy; omega
    · rw [if_neg h1]
      obtain ⟨e3, e4⟩ := leaf_pieces hx h1
      have hi := hk h1
      subst hi
      refine ⟨by omega, fun y hy => ?_⟩
      rcases List.mem_cons.1 hy with rfl | hy
      · omega
      · have := e2' y (by simpa using hy); omega
theorem doc_toks {s : ByteArray} {x : List Nd} (h : ReadB s (some x, 0)) : tokN (canP [] x) ≤ s.size := by
  obtain ⟨o, q, h1, h2⟩ := h.doc
  have h3 := h2.tok .nil _ _ rfl
  have h4 := lexF_len _ _ _ _ _ _ (by omega) h1
  rw [canP_nil] at h3
  simp only [List.length_nil, Nat.zero_add, Nat.add_zero, tokN] at h3 h4
  omega
theorem read_doc {s : ByteArray} {x : List Nd} (h : ReadB s (some x, 0)) : IsDoc x := by
  obtain ⟨o, q, h1, h2⟩ := h.doc
  exact ⟨h2.fits (fun y hy => by cases hy) _ _ rfl, h2.forest .nil _ _ rfl⟩
theorem doc_words {s : ByteArray} {x : List Nd} (h : ReadB s (some x, 0)) : ∀ y ∈ x, y.words.length ≤ s.size := fun y hy => by
  have hd := read_doc h
  have h1 := (can_pieces hd.2 hd.1 [] (by simp) rfl).2 y hy
  have h2 := doc_toks h
  omega
/-- a script's canonical text: its size. -/
theorem can_short {s : ByteArray} {x : List Nd} (h : ReadB s (some x, 0)) : (canS x).size ≤ 26 * s.size := by
  have hd := read_doc h
  have h1 := (can_pieces hd.2 hd.1 [.b 10] (by simp) rfl).1
  have h2 := doc_toks h
  have h3 := text_len (canP [.b 10] x) (fine_can hd.2 hd.1 _ (fine_cons (show (Pc.b 10).fine from .inr rfl) fine_nil))
  have h4 : (canS x).size = (textOf (canP [.b 10] x)).length := bytesOf_size _
  omega
end Go.Proofs.YtechccoongilcaaDoor
/- The program's package canon: Of; the chapter's examples. -/
namespace Go.Proofs.YtechccoongilcaaDoor
open Go.RowKit
set_option linter.unusedVariables false
set_option linter.unusedSimpArgs false
/-- what Of answers. -/
def COfPost (w : World) (s : ByteArray) (e : Ending) (w' : World) : Prop :=
  (∃ x, ReadB s (some x, 0) ∧ e = .returned (.tuple #[.string (canS x), .int .i64 0, .int .i64 0]) ∧ Below w.heap.size w w') ∨
  (∃ k : Nat, ReadB s (none, k) ∧ e = .returned (.tuple #[.string ⟨#[]⟩, .int .i64 (k : Int), .int .i64 1]) ∧ Below w.heap.size w w')
theorem cof_ok {w w' : World} {s : ByteArray} {e : Ending} {x : List Nd} (h : ReadB s (some x, 0)) (hp : COfPost w s e w') : e = .returned (.tuple #[.string (canS x), .int .i64 0, .int .i64 0]) ∧ Below w.heap.size w w' := by
  rcases hp with ⟨x', h1, h2, h3⟩ | ⟨k, h1, _⟩
  · have := h.det h1
    injection this with h5 _; injection h5 with h5; subst h5
    exact ⟨h2, h3⟩
  · have := h.det h1
    injection this with h5 _; cases h5
theorem cof_bad {w w' : World} {s : ByteArray} {e : Ending} {k : Nat} (h : ReadB s (none, k)) (hp : COfPost w s e w') : e = .returned (.tuple #[.string ⟨#[]⟩, .int .i64 (k : Int), .int .i64 1]) ∧ Below w.heap.size w w' := by
  rcases hp with ⟨x', h1, _⟩ | ⟨k', h1, h2, h3⟩
  · have := h.det h1
    injection this with h5 _; cases h5
  · have := h.det h1
    injection this with _ h5; subst h5
    exact ⟨h2, h3⟩
set_option maxHeartbeats 2000000 in
set_option maxRecDepth 100000 in
theorem cof_any (s : ByteArray) (w : World) (hT : TabsB w) (hs : s.size ≤ 100000) : Calls Tryd.prog 6 #[.string s] w (COfPost w s) := by
  have HT := Lib.hid hT
  clear hT
  go_enter Tryd.func6, Tryd.ntmps6
  go_wp2_with fail
  refine (readof_any s w HT.out.1 (by omega)).mono ?_
  rintro e w1 (⟨x, A, n, c, hr, rfl, hN, hb⟩ | ⟨k, hr, rfl, hb⟩)
  · have HR := Lib.hid hr
    have hdl := doc_len hr
    have hxl := hN.len
    have HX := Lib.hid (text_any x A n c w1 (read_doc hr) hN.sees (HT.out.below hb).2 (by omega) (fun y hy => by have := doc_words hr y hy; omega))
    have HB := Lib.hid hb
    clear hr hN hb hxl hdl
    go_wp2_with fail
    refine HX.out.mono ?_
    rintro e w2 ⟨rfl, hb2⟩
    have HB2 := Lib.hid (below_then HB.out hb2)
    clear hb2
    go_wp2_with fail
    go_returns
    exact .inl ⟨x, HR.out, rfl, HB2.out⟩
  · have HR := Lib.hid hr
    have HB := Lib.hid hb
    clear hr hb
    go_wp2_with fail
    go_returns
    exact .inr ⟨k, HR.out, rfl, HB.out⟩
set_option maxHeartbeats 2000000 in
set_option maxRecDepth 100000 in
theorem cis_to {s : ByteArray} {x : List Nd} {want : ByteArray} (hr : ReadB s (some x, 0)) (hw : canS x = want) (w : World) (hT : TabsB w) (hs : s.size ≤ 100000) : Calls Tryd.prog 10 #[.string s, .string want] w fun e w' => e = .returned (.bool true) ∧ Below w.heap.size w w' := by
  have HR := Lib.hid hr
  have HW := Lib.hid hw
  have HT := Lib.hid hT
  clear hr hw hT
  go_enter Tryd.func10, Tryd.ntmps10
  go_wp2_with fail
  refine (cof_any s w HT.out hs).mono ?_
  intro e w1 hp
  obtain ⟨rfl, hb⟩ := cof_ok HR.out hp
  have HB := Lib.hid hb
  rw [HW.out]
  clear hp hb
  go_wp2_with fail
  go_ret
  exact ⟨rfl, HB.out⟩
def bytesW (l : List Nat) : ByteArray := ⟨(l.map UInt8.ofNat).toArray⟩
def ex1 : List Nd := [⟨1, 2, ⟨5, 0, 0, 0, 0, 2, 2, 0, 2, 0, 0, 0⟩, 0, 0, [], 0, 0, 0⟩, ⟨2, 1, .none, 10, 2, [30, 40], 0, 0, 0⟩, ⟨3, 1, .none, 0, 0, [], 0, 3, 4⟩]
def ex2 : List Nd := [⟨1, 2, ⟨0, 0, 0, 0, 0, 2, 3, 0, 0, 0, 0, 0⟩, 0, 0, [], 0, 0, 0⟩, ⟨4, 1, .none, 0, 0, [], 2, 1, 2⟩]
theorem dig10 : digitsL 10 = [49, 48] := by rw [digitsL, if_neg (by decide), show 10 / 10 = 1 from rfl, digitsL, if_pos (by decide)]; rfl
theorem dig30 : digitsL 30 = [51, 48] := by rw [digitsL, if_neg (by decide), show 30 / 10 = 3 from rfl, digitsL, if_pos (by decide)]; rfl
theorem dig40 : digitsL 40 = [52, 48] := by rw [digitsL, if_neg (by decide), show 40 / 10 = 4 from rfl, digitsL, if_pos (by decide)]; rfl
theorem dig1 : digitsL 1 = [49] := by rw [digitsL, if_pos (by decide)]; rfl
theorem dig2 : digitsL 2 = [50] := by rw [digitsL, if_pos (by decide)]; rfl
theorem dig3 : digitsL 3 = [51] := by rw [digitsL, if_pos (by decide)]; rfl
theorem dig4 : digitsL 4 = [52] := by rw [digitsL, if_pos (by decide)]; rfl
theorem dig5 : digitsL 5 = [53] := by rw [digitsL, if_pos (by decide)]; rfl
theorem can1 : canP [.b 10] ex1 = [.s 91, .s 109, .n 5, .s 66, .n 2, .s 40, .n 10, .b 32, .n 2, .b 32, .n 30, .b 32, .n 40, .s 41, .s 93, .b 10, .s 123, .n 3, .b 32, .n 4, .s 125, .b 10] := by decide +kernel
theorem can2 : canP [.b 10] ex2 = [.s 91, .s 119, .n 3, .s 60, .s 82, .n 1, .b 32, .n 2, .s 62, .s 93, .b 10] := by decide +kernel
theorem str1 : canS ex1 = ⟨#[91, 109, 53, 66, 50, 40, 49, 48, 32, 50, 32, 51, 48, 32, 52, 48, 41, 93, 10, 123, 51, 32, 52, 125, 10]⟩ := by
  unfold canS canT
  rw [can1]
  simp only [textOf, List.flatMap_cons, List.flatMap_nil, Pc.bytes, dig10, dig30, dig40, dig2, dig3, dig4, dig5]
  rfl
theorem str2 : canS ex2 = ⟨#[91, 119, 51, 60, 82, 49, 32, 50, 62, 93, 10]⟩ := by
  unfold canS canT
  rw [can2]
  simp only [textOf, List.flatMap_cons, List.flatMap_nil, Pc.bytes, dig1, dig2, dig3]
  rfl
theorem str0 : canS [] = ⟨#[]⟩ := rfl
theorem evB : evalF ⟨#[91, 66, 50, 32, 109, 32, 53, 32, 40, 49, 48, 32, 50, 32, 51, 48, 32, 52, 48, 41, 32, 35, 32, 115, 111]⟩ = some (none, 25) := by decide +kernel
theorem ev1 : evalF ⟨#[91, 66, 50, 32, 109, 32, 53, 32, 40, 49, 48, 32, 50, 32, 51, 48, 32, 52, 48, 41, 93, 32, 123, 32, 51, 32, 32, 52, 32, 125]⟩ = some (some ex1, 0) := by decide +kernel
theorem ev2 : evalF ⟨#[91, 111, 50, 32, 119, 51, 32, 109, 48, 32, 60, 82, 32, 49, 32, 50, 62, 93]⟩ = some (some ex2, 0) := by decide +kernel
theorem ev0 : evalF ⟨#[]⟩ = some (some [], 0) := by decide +kernel
set_option maxHeartbeats 4000000 in
set_option maxRecDepth 100000 in
theorem cawake_any (w : World) (hT : TabsB w) : Calls Tryd.prog 5 #[] w fun e w' => e = .returned (.bool true) ∧ Below w.heap.size w w' := by
  have HT := Lib.hid hT
  clear hT
  go_enter Tryd.func5, Tryd.ntmps5
  go_wp2_with fail
  refine (cof_any _ w HT.out (by decide)).mono ?_
  intro e w1 hp
  obtain ⟨rfl, hb⟩ := cof_bad (evalF_ok evB) hp
  have HB := Lib.hid hb
  clear hp hb
  go_wp2_with fail
  refine (cis_to (evalF_ok ev1) str1 _ (HT.out.below HB.out) (by decide)).mono ?_
  rintro e w2 ⟨rfl, hb⟩
  have HB2 := Lib.hid (below_then HB.out hb)
  clear hb
  go_wp2_with fail
  refine (cis_to (evalF_ok ev2) str2 _ (HT.out.below HB2.out) (by decide)).mono ?_
  rintro e w3 ⟨rfl, hb⟩
  have HB3 := Lib.hid (below_then HB2.out hb)
  clear hb
  go_wp2_with fail
  refine (cis_to (evalF_ok ev0) str0 _ (HT.out.below HB3.out) (by decide)).mono ?_
  rintro e w4 ⟨rfl, hb⟩
  have HB4 := Lib.hid (below_then HB3.out hb)
  clear hb
  go_wp2_with fail
  go_ret
  exact ⟨rfl, HB4.out⟩
end Go.Proofs.YtechccoongilcaaDoor
/- The document's answers for package canon: Of. -/
namespace Go.Proofs.YtechccoongilcaaDoor
open Go.RowKit
set_option linter.unusedVariables false
set_option linter.unusedSimpArgs false
theorem lf_bytes : pcS [.b 10] = ⟨#[10]⟩ := rfl
/-- a document's text. -/
theorem vtext_doc (x : List Nd) (A : Option Addr) (n ca : Nat) (w : World) (hd : IsDoc x) (hS : Sees w A n x) (hn : n ≤ 100000) (hw : ∀ y ∈ x, y.words.length ≤ 100000) : Calls Tryd.prog 13 #[.slice A n ca, .int .i64 0, .int .i64 (n : Int), .string ⟨#[10]⟩] w fun e w' => e = .returned (.string (canS x)) ∧ Below w.heap.size w w' :=
  vtext_all x A n ca hn hw x.length [.b 10] x [] [] 0 w (Nat.le_refl _) rfl (by simp) hd.2 hd.1 (by simp) fine_lf hS _ lf_bytes (n : Int) (by rw [hS.len]; simp) _ rfl
set_option maxHeartbeats 2000000 in
set_option maxRecDepth 100000 in
theorem vcof_any (s : ByteArray) (w : World) (hs : s.size ≤ 100000) : Calls Tryd.prog 7 #[.string s] w (COfPost w s) := by
  go_enter Tryd.func7, Tryd.ntmps7
  go_wp2_with fail
  refine (refof_any s w (by omega)).mono ?_
  rintro e w1 (⟨x, A, n, c, hr, rfl, hN, hb⟩ | ⟨k, hr, rfl, hb⟩)
  · have HR := Lib.hid hr
    have hdl := doc_len hr
    have hxl := hN.len
    have HX := Lib.hid (vtext_doc x A n c w1 (read_doc hr) hN.sees (by omega) (fun y hy => by have := doc_words hr y hy; omega))
    have HB := Lib.hid hb
    clear hr hN hb hxl hdl
    go_wp2_with fail
    refine HX.out.mono ?_
    rintro e w2 ⟨rfl, hb2⟩
    have HB2 := Lib.hid (below_then HB.out hb2)
    clear hb2
    go_wp2_with fail
    go_returns
    exact .inl ⟨x, HR.out, rfl, HB2.out⟩
  · have HR := Lib.hid hr
    have HB := Lib.hid hb
    clear hr hb
    go_wp2_with fail
    go_returns
    exact .inr ⟨k, HR.out, rfl, HB.out⟩
/-- both are of one script. -/
theorem cof_same {w w' v v' : World} {s : ByteArray} {e f : Ending} (h : COfPost w s e w') (k : COfPost v s f v') : ∃ (a : ByteArray) (p g : Int), e = .returned (.tuple #[.string a, .int .i64 p, .int .i64 g]) ∧ f = .returned (.tuple #[.string a, .int .i64 p, .int .i64 g]) ∧ Below w.heap.size w w' ∧ Below v.heap.size v v' := by
  rcases h with ⟨x, h1, rfl, h3⟩ | ⟨p, h1, rfl, h3⟩
  · obtain ⟨rfl, hb⟩ := cof_ok h1 k
    exact ⟨_, _, _, rfl, rfl, h3, hb⟩
  · obtain ⟨rfl, hb⟩ := cof_bad h1 k
    exact ⟨_, _, _, rfl, rfl, h3, hb⟩
end Go.Proofs.YtechccoongilcaaDoor
/- The walk of the law CanonOf. -/
namespace Go.Proofs.YtechccoongilcaaDoor
open Go.RowKit
set_option linter.unusedVariables false
set_option linter.unusedSimpArgs false
set_option maxHeartbeats 4000000 in
set_option maxRecDepth 100000 in
theorem canonof_law (s : ByteArray) (hmax : s.size ≤ 9223372036854775807) (w : World) (hT : TabsB w) : Calls Tryd.prog 3 #[.string s] w fun e w' => e = .returned (.bool true) ∧ Below w.heap.size w w' := by
  have HT := Lib.hid hT
  clear hT
  by_cases hbig : 3000 < s.size
  · go_enter Tryd.func3, Tryd.ntmps3
    go_wp2_with fail
    refine (cawake_any _ HT.out).mono ?_
    rintro e w1 ⟨rfl, hb⟩
    have HB := Lib.hid hb
    clear hb
    go_wp2_with fail
    go_ret
    exact ⟨rfl, HB.out⟩
  have hs : s.size ≤ 3000 := by omega
  go_enter Tryd.func3, Tryd.ntmps3
  go_wp2_with fail
  refine (cof_any s w HT.out (by omega)).mono ?_
  intro e w1 hp
  have HP := Lib.hid hp
  have HV := Lib.hid (fun v => vcof_any s v (by omega))
  obtain ⟨a, p, g, rfl, hb, hall⟩ : ∃ a p g, e = .returned (.tuple #[.string a, .int .i64 p, .int .i64 g]) ∧ Below w.heap.size w w1 ∧ ∀ v f v', COfPost v s f v' → f = .returned (.tuple #[.string a, .int .i64 p, .int .i64 g]) ∧ Below v.heap.size v v' := by
    rcases hp with ⟨x, h1, rfl, h3⟩ | ⟨p, h1, rfl, h3⟩
    · exact ⟨_, _, _, rfl, h3, fun v f v' k => cof_ok h1 k⟩
    · exact ⟨_, _, _, rfl, h3, fun v f v' k => cof_bad h1 k⟩
  have HA := Lib.hid hall
  have HB := Lib.hid hb
  clear hp HP hall hb
  go_wp2_with fail
  refine (HV.out _).mono ?_
  intro e w2 hq
  obtain ⟨rfl, hb2⟩ := HA.out _ _ _ hq
  have HB2 := Lib.hid (below_then HB.out hb2)
  clear hq hb2
  go_wp2_with fail
  refine (cawake_any _ (HT.out.below HB2.out)).mono ?_
  rintro e w3 ⟨rfl, hb⟩
  have HB3 := Lib.hid (below_then HB2.out hb)
  clear hb
  go_wp2_with fail
  go_ret
  exact ⟨rfl, HB3.out⟩
end Go.Proofs.YtechccoongilcaaDoor
/- The walk of the law CanonOnce. -/
namespace Go.Proofs.YtechccoongilcaaDoor
open Go.RowKit
set_option linter.unusedVariables false
set_option linter.unusedSimpArgs false
theorem same_self (x : List Nd) (A B : Option Addr) (n m ca cb : Nat) (w : World) (ha : Sees w A n x) (hb : Sees w B m x) : Calls Tryd.prog 9 #[.slice A n ca, .slice B m cb] w fun e w' => e = .returned (.bool true) ∧ Below w.heap.size w w' := by
  have := psame_any x x A B n m ca cb w ha hb
  rw [show ndsB x x = true by unfold ndsB; simp] at this
  exact this
theorem b_at {s : ByteArray} {i : Nat} (h : i < s.size) : ((s[i]'h).toNat : Int) = bAt s i := bAt_get s i h
set_option maxHeartbeats 4000000 in
set_option maxRecDepth 100000 in
theorem canononce_law (s : ByteArray) (hmax : s.size ≤ 9223372036854775807) (w : World) (hT : TabsB w) : Calls Tryd.prog 4 #[.string s] w fun e w' => e = .returned (.bool true) ∧ Below w.heap.size w w' := by
  have HT := Lib.hid hT
  clear hT
  by_cases hbig : 3000 < s.size
  · go_enter Tryd.func4, Tryd.ntmps4
    go_wp2_with fail
    refine (cawake_any _ HT.out).mono ?_
    rintro e w1 ⟨rfl, hb⟩
    have HB := Lib.hid hb
    clear hb
    go_wp2_with fail
    go_ret
    exact ⟨rfl, HB.out⟩
  have hs : s.size ≤ 3000 := by omega
  go_enter Tryd.func4, Tryd.ntmps4
  go_wp2_with fail
  refine (cof_any s w HT.out (by omega)).mono ?_
  rintro e w1 (⟨x, hr, rfl, hb⟩ | ⟨k, hr, rfl, hb⟩)
  rotate_left
  · have HR := Lib.hid hr
    have HB := Lib.hid hb
    clear hr hb
    go_wp2_with fail
    refine (readof_any s _ (HT.out.below HB.out).1 (by omega)).mono ?_
    intro e w2 hq
    obtain ⟨rfl, hb2⟩ := of_bad HR.out hq
    have HB2 := Lib.hid (below_then HB.out hb2)
    clear hq hb2
    go_wp2_with fail
    refine (cawake_any _ (HT.out.below HB2.out)).mono ?_
    rintro e w3 ⟨rfl, hb⟩
    have HB3 := Lib.hid (below_then HB2.out hb)
    clear hb
    go_wp2_with fail
    go_ret
    exact ⟨rfl, HB3.out⟩
  have HR := Lib.hid hr
  have HB := Lib.hid hb
  have HRA := Lib.hid (canS_back (read_doc hr))
  have HCL := Lib.hid (canS_clean (read_doc hr))
  have hsz := can_short hr
  clear hr hb
  obtain ⟨a, ha⟩ : ∃ a, canS x = a := ⟨_, rfl⟩
  rw [ha] at HRA HCL hsz
  have HA := Lib.hid ha
  rw [ha]
  clear ha
  have hsa : a.size ≤ 78000 := by omega
  clear hsz
  go_wp2_with fail
  refine (readof_any s _ (HT.out.below HB.out).1 (by omega)).mono ?_
  intro e w2 hq
  obtain ⟨A1, n1, c1, rfl, hN, hb2⟩ := of_ok HR.out hq
  have HB2 := Lib.hid (below_then HB.out hb2)
  have HS1 := Lib.hid hN.sees
  clear hq hb2 hN
  go_wp2_with fail
  refine (cof_any a _ (HT.out.below HB2.out) (by omega)).mono ?_
  intro e w3 hq
  obtain ⟨rfl, hb3⟩ := cof_ok HRA.out hq
  rw [HA.out]
  have HB3 := Lib.hid (below_then HB2.out hb3)
  have HS2 := Lib.hid (HS1.out.below hb3)
  clear hq hb3
  go_wp2_with fail
  refine (readof_any a _ (HT.out.below HB3.out).1 (by omega)).mono ?_
  intro e w4 hq
  obtain ⟨A2, n2, c2, rfl, hN, hb4⟩ := of_ok HRA.out hq
  have HB4 := Lib.hid (below_then HB3.out hb4)
  have HS3 := Lib.hid (HS2.out.below hb4)
  have HM := Lib.hid hN.sees
  clear hq hb4 hN
  go_wp2_with fail
  go_loopw [15] (fun i wr => ∃ k : Nat, 1 ≤ k ∧ i = .int .i64 k ∧ (k ≤ a.size ∨ k = 1) ∧ wr = w4) (fun i _ => a.size - (intOf i).toNat)
  case atStart => exact ⟨1, by omega, rfl, .inr rfl, rfl⟩
  case round =>
    obtain ⟨k, hk1, rfl, hka, rfl⟩ := hrel
    by_cases hlt : k < a.size
    · obtain ⟨g1, g2, g3, g4⟩ := HCL.out k hk1 hlt
      have hk2 : (k : Int) < (a.size : Int) := by omega
      have hk3 : (1 : Int) ≤ (k : Int) := by omega
      rw [← b_at hlt] at g1 g2 g3 g4
      by_cases h32 : ((a[k]'hlt).toNat : Int) = 32
      · have h10 : ¬ ((a[k]'hlt).toNat : Int) = 10 := by omega
        have q32 : ¬ bAt a (k - 1) = 32 := fun e => g3 ⟨h32, e⟩
        rw [← b_at (by omega : k - 1 < a.size)] at q32
        clear g3 g4
        go_wp2_with fail
        go_roundw
        case rel => exact ⟨k + 1, by omega, by go_num, .inl (by omega), by first | rfl | trivial⟩
        case measure => simp [intOf]; omega
      by_cases h10 : ((a[k]'hlt).toNat : Int) = 10
      · have q10 : ¬ bAt a (k - 1) = 10 := fun e => g4 ⟨h10, e⟩
        rw [← b_at (by omega : k - 1 < a.size)] at q10
        clear g3 g4
        go_wp2_with fail
        go_roundw
        case rel => exact ⟨k + 1, by omega, by go_num, .inl (by omega), by first | rfl | trivial⟩
        case measure => simp [intOf]; omega
      · have b9 : (((a[k]'hlt).toNat : Int) == 9) = false := beq_eq_false_iff_ne.2 g1
        have b35 : (((a[k]'hlt).toNat : Int) == 35) = false := beq_eq_false_iff_ne.2 g2
        have b32 : (((a[k]'hlt).toNat : Int) == 32) = false := beq_eq_false_iff_ne.2 h32
        have b10 : (((a[k]'hlt).toNat : Int) == 10) = false := beq_eq_false_iff_ne.2 h10
        clear g3 g4
        go_wp2_with fail
        go_roundw
        case rel => exact ⟨k + 1, by omega, by go_num, .inl (by omega), by first | rfl | trivial⟩
        case measure => simp [intOf]; omega
    · have hk2 : (a.size : Int) ≤ (k : Int) := by omega
      go_wp2_with fail
      refine (same_self x A1 A2 n1 n2 c1 c2 _ HS3.out HM.out).mono ?_
      rintro e w5 ⟨rfl, hb⟩
      have HB5 := Lib.hid (below_then HB4.out hb)
      clear hb
      go_wp2_with fail
      refine (cawake_any _ (HT.out.below HB5.out)).mono ?_
      rintro e w6 ⟨rfl, hb⟩
      have HB6 := Lib.hid (below_then HB5.out hb)
      clear hb
      go_wp2_with fail
      go_ret
      exact ⟨rfl, HB6.out⟩
end Go.Proofs.YtechccoongilcaaDoor
