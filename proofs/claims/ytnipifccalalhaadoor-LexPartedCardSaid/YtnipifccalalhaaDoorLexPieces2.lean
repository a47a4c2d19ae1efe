import Derived.Test.YtnipifccalalhaaDoorLexPieces
/- The program's package lex: the pieces' tokens are the document's reading; a text that is not well-formed. -/
namespace Go.Proofs.YtnipifccalalhaaDoor
open Go
set_option linter.unusedVariables false
set_option linter.unusedSimpArgs false
theorem size_one {s : ByteArray} {k : Nat} (h : inB s k 0 127 = true) : sizeB s k = 1 := by unfold sizeB; rw [if_pos h]
theorem size_dig {s : ByteArray} {k : Nat} (h : digB s k = true) : sizeB s k = 1 := by
  have hl := inB_lt h
  have q := inB_at hl 48 57
  rw [show inB s k 48 57 = true from h] at q
  have q2 := q.symm
  simp only [Bool.and_eq_true, decide_eq_true_eq] at q2
  exact size_one (inB_yes hl (by omega) (by omega))
/-- the piece goes on. -/
theorem goes_on {s : ByteArray} {m : More} {from_ k : Nat} {out : List Tok} (hp : Piece s m from_ k) (hk : k < s.size) (hz : sizeB s k ≠ 0) (hg : m.goes (runeB s k (sizeB s k)) = true) :
    Piece s m from_ (k + sizeB s k) ∧ stay s m from_ (k + sizeB s k) out = stay s m from_ k out := by
  rcases rune_byte hz with ⟨h1, h2, h3⟩ | ⟨h1, h2, h3⟩
  · rw [h3] at hg
    rw [h2]
    cases m with
    | white =>
      obtain ⟨p1, p2⟩ := hp
      have hw := whiteC_iff.1 hg
      refine ⟨⟨by omega, fun _ => ?_⟩, ?_⟩
      · by_cases q : from_ < k
        · exact p2 q
        · obtain rfl : from_ = k := by omega
          exact hg
      · show lexK s false (k + 1) out = lexK s false k out
        rw [lexK_open (k := k) hk, if_neg hz]
        simp only [Bool.false_eq_true, if_false]
        rw [if_neg (by omega), if_pos hw]
    | hash =>
      obtain ⟨p1, p2⟩ := hp
      refine ⟨⟨by omega, p2⟩, ?_⟩
      show lexK s true (k + 1) out = lexK s true k out
      have h10 : bAt s k ≠ 10 := by simpa [More.goes] using hg
      rw [lexK_open (k := k) hk, if_neg hz, h2]
      simp only [if_true]
      rw [decide_eq_true h10]
    | digit =>
      obtain ⟨p1, p2⟩ := hp
      refine ⟨⟨by omega, fun i hi1 hi2 => ?_⟩, rfl⟩
      by_cases q : i < k
      · exact p2 i hi1 q
      · obtain rfl : i = k := by omega
        rw [digB_digitC hk]; exact hg
    | sign => exact absurd hg (by simp [More.goes])
  · cases m with
    | white => rw [show More.goes .white (runeB s k (sizeB s k)) = whiteC (runeB s k (sizeB s k)) from rfl, whiteC_big h3] at hg; exact absurd hg (by simp)
    | hash =>
      obtain ⟨p1, p2⟩ := hp
      refine ⟨⟨by omega, p2⟩, ?_⟩
      show lexK s true (k + sizeB s k) out = lexK s true k out
      rw [lexK_open (k := k) hk, if_neg hz]
      simp only [if_true]
      rw [decide_eq_true (show bAt s k ≠ 10 by omega)]
    | digit => rw [show More.goes .digit (runeB s k (sizeB s k)) = digitC (runeB s k (sizeB s k)) from rfl, digitC_big h3] at hg; exact absurd hg (by simp)
    | sign => exact absurd hg (by simp [More.goes])
/-- what a piece owes the function that makes its token. -/
def PieceOk (s : ByteArray) (p : Nat × Nat) : Prop := p.1 ≤ p.2 ∧ p.2 ≤ s.size ∧ (nothingB (s.extract p.1 p.2) = false →
  0 < (s.extract p.1 p.2).size ∧ sizeB (s.extract p.1 p.2) 0 ≠ 0 ∧ (digitC (runeB (s.extract p.1 p.2) 0 (sizeB (s.extract p.1 p.2) 0)) = true → ∀ i, i < (s.extract p.1 p.2).size → digB (s.extract p.1 p.2) i = true))
def endsAs (s : ByteArray) (k : Nat) (out : List Tok) (v : Option (List Tok) × Nat) : Option (Tok × Bool) → Prop
  | none => v = lexK s false k out
  | some (x, true) => v = lexK s false k (out ++ [x])
  | some (x, false) => v = (none, x.at_.toNat)
/-- the piece ends. -/
theorem end_piece {s : ByteArray} {m : More} {from_ k : Nat} (hp : Piece s m from_ k) (hk : k ≤ s.size) (hz : k < s.size → sizeB s k ≠ 0 ∧ m.goes (runeB s k (sizeB s k)) = false) :
    PieceOk s (from_, k) ∧ ∀ out, endsAs s k out (stay s m from_ k out) (pieceTok s (from_, k)) := by
  have hle : from_ ≤ k := by
    cases m with
    | white => exact hp.1
    | hash => have := hp.1; omega
    | digit => have := hp.1; omega
    | sign => have := hp.1; omega
  obtain ⟨t, ht⟩ : ∃ t, s.extract from_ k = t := ⟨_, rfl⟩
  have hx : Ext s t from_ := ht ▸ ext_extract hle hk
  have hts : t.size = k - from_ := by rw [← ht, ByteArray.size_extract]; omega
  have hb0 : from_ < k → bAt t 0 = bAt s from_ := fun q => by have := hx.at_ 0 (by omega); rwa [Nat.add_zero] at this
  unfold PieceOk pieceTok
  simp only [ht]
  cases m with
  | white =>
    have hn : nothingB t = true := by
      unfold nothingB
      by_cases q : from_ < k
      · rw [hb0 q, hp.2 q]; simp
      · rw [decide_eq_true (by omega)]; simp
    rw [hn]
    exact ⟨⟨hle, hk, fun q => absurd q (by simp)⟩, fun out => rfl⟩
  | hash =>
    have hn : nothingB t = true := by
      unfold nothingB
      rw [hb0 hp.1, hp.2]; simp
    rw [hn]
    refine ⟨⟨hle, hk, fun q => absurd q (by simp)⟩, fun out => ?_⟩
    show lexK s true k out = lexK s false k out
    by_cases hlt : k < s.size
    · obtain ⟨hz1, hz2⟩ := hz hlt
      rcases rune_byte hz1 with ⟨h1, h2, h3⟩ | ⟨h1, h2, h3⟩
      · rw [h3] at hz2
        have h10 : bAt s k = 10 := by simpa [More.goes] using hz2
        rw [lexK_open hlt, if_neg hz1, lexK_open hlt, if_neg hz1, h2]
        simp [h10]
      · have h10 : runeB s k (sizeB s k) = 10 := by simpa [More.goes] using hz2
        omega
    · rw [lexK_end hlt, lexK_end hlt]
  | sign =>
    obtain ⟨p1, p2, p3, p4, p5⟩ := hp
    have hst : sizeB t 0 = sizeB s from_ := by
      have := hx.sizeB (k := 0) (by rw [Nat.add_zero]; exact p2) (by rw [Nat.add_zero]; omega)
      rwa [Nat.add_zero] at this
    have hru : runeB t 0 (sizeB t 0) = runeB s from_ (sizeB s from_) := by
      have := hx.runeB (k := 0) (n := sizeB s from_) (by omega) (by omega)
      rw [Nat.add_zero] at this
      rw [hst, this]
    have hn : nothingB t = false := by
      have hw : whiteC (bAt s from_) = false := by
        rcases rune_byte p2 with ⟨h1, h2, h3⟩ | ⟨h1, h2, h3⟩
        · rw [← h3]; exact p4
        · exact whiteC_big h1
      unfold nothingB
      rw [hb0 (by omega), hw, decide_eq_false (by omega)]
      simp [p3]
    rw [hn, hru, hst]
    refine ⟨⟨hle, hk, fun _ => ⟨by omega, p2, fun q => absurd q (by rw [p5]; simp)⟩⟩, fun out => ?_⟩
    unfold tokR
    rw [hru, p5]
    rfl
  | digit =>
    obtain ⟨p1, p2⟩ := hp
    have hd0 := p2 from_ (by omega) (by omega)
    have hs1 := size_dig hd0
    have hl0 := inB_lt hd0
    have h48 : 48 ≤ bAt s from_ ∧ bAt s from_ ≤ 57 := by
      rw [digB_digitC hl0] at hd0
      unfold digitC at hd0; simp at hd0; omega
    have hst : sizeB t 0 = 1 := by
      have := hx.sizeB (k := 0) (by rw [Nat.add_zero]; omega) (by rw [Nat.add_zero]; omega)
      rw [Nat.add_zero] at this
      omega
    have hru : runeB t 0 (sizeB t 0) = bAt s from_ := by rw [hst]; show bAt t 0 = _; exact hb0 p1
    have hdc : digitC (bAt s from_) = true := by unfold digitC; simp; omega
    have hall : ∀ i, i < t.size → digB t i = true := fun i hi => by rw [hx.digB hi]; exact p2 _ (by omega) (by omega)
    have hn : nothingB t = false := by
      unfold nothingB
      rw [hb0 p1, decide_eq_false (by omega)]
      have : whiteC (bAt s from_) = false := by unfold whiteC; simp; omega
      rw [this]; simp; omega
    have hkk : from_ + t.size = k := by omega
    have hend : digB s (from_ + t.size) = false := by
      rw [hkk]
      by_cases hlt : k < s.size
      · obtain ⟨hz1, hz2⟩ := hz hlt
        rw [digB_digitC hlt]
        rcases rune_byte hz1 with ⟨h1, h2, h3⟩ | ⟨h1, h2, h3⟩
        · rw [← h3]; exact hz2
        · exact digitC_big h1
      · exact inB_ge hlt _ _
    have hnum := hx.numB hend (k := 0) (by omega)
    have h2 : (numB t 0).2 = t.size := numF_all hall _ _ 0 (by omega) (by omega)
    rw [Nat.add_zero, h2, hkk] at hnum
    rw [hn, hru, hst]
    refine ⟨⟨hle, hk, fun _ => ⟨by omega, by omega, fun _ => hall⟩⟩, fun out => ?_⟩
    show endsAs s k out (lexK s false from_ out) (some (tokR t from_))
    unfold tokR
    rw [hru, hdc, if_pos rfl, hb0 p1, lexK_open hl0, if_neg (by omega)]
    simp only [Bool.false_eq_true, if_false]
    rw [if_neg (by omega), if_neg (by omega), if_pos hd0, hnum]
    by_cases hbad : 1099511627776 < (numB t 0).1 ∨ (bAt s from_ = 48 ∧ 1 < t.size)
    · rw [if_pos hbad, if_pos (by simp only; omega)]
      show ((none, from_) : Option (List Tok) × Nat) = (none, ((from_ : Nat) : Int).toNat)
      rfl
    · rw [if_neg hbad, if_neg (by simp only; omega)]
      rfl
theorem foldT_end {s : ByteArray} {k : Nat} {out : List Tok} {v : Option (List Tok) × Nat} {p : Nat × Nat} {ps : List (Nat × Nat)} (h : endsAs s k out v (pieceTok s p))
    (hr : ∀ out, foldT (toksP s ps) out = lexK s false k out) : foldT (toksP s (p :: ps)) out = v := by
  unfold toksP at hr ⊢
  rw [List.filterMap_cons]
  rcases hq : pieceTok s p with _ | ⟨x, _ | _⟩
  · rw [hq] at h; rw [show v = _ from h]; exact hr out
  · rw [hq] at h; exact h.symm
  · rw [hq] at h; rw [show v = _ from h]; exact hr (out ++ [x])
/-- all pieces' tokens, one after another, are the document's reading. -/
theorem pieces_fold {s : ByteArray} : ∀ (f k from_ : Nat) (m : More) (out : List Tok), k ≤ s.size → s.size ≤ k + f → textF s f k = none → Piece s m from_ k →
    (∀ p ∈ piecesF s f k from_ m, PieceOk s p) ∧ foldT (toksP s (piecesF s f k from_ m)) out = stay s m from_ k out := by
  have last : ∀ (from_ : Nat) (m : More) (out : List Tok), Piece s m from_ s.size → (∀ p ∈ [(from_, s.size)], PieceOk s p) ∧ foldT (toksP s [(from_, s.size)]) out = stay s m from_ s.size out := by
    intro from_ m out hp
    obtain ⟨h1, h2⟩ := end_piece hp (Nat.le_refl _) (fun q => absurd q (by omega))
    refine ⟨fun p hp => by simp at hp; subst hp; exact h1, ?_⟩
    refine foldT_end (h2 out) (fun o => ?_)
    rw [lexK_end (by omega)]; rfl
  intro f
  induction f with
  | zero =>
    intro k from_ m out hk hf ht hp
    obtain rfl : k = s.size := by omega
    exact last from_ m out hp
  | succ f ih =>
    intro k from_ m out hk hf ht hp
    by_cases hlt : k < s.size
    · rw [textF, if_pos hlt] at ht
      by_cases hz : sizeB s k = 0
      · rw [if_pos hz] at ht; exact absurd ht (by simp)
      rw [if_neg hz] at ht
      have hin := sizeB_in (s := s) (k := k) (by omega)
      rw [piecesF, if_pos hlt]
      rcases hg : m.goes (runeB s k (sizeB s k)) with _ | _
      · simp only [Bool.false_eq_true, if_false]
        obtain ⟨h1, h2⟩ := end_piece hp hk (fun _ => ⟨hz, hg⟩)
        obtain ⟨b1, _⟩ := begin_piece (out := out) hlt hz
        have i1 := (ih (k + sizeB s k) k _ out hin (by omega) ht b1).1
        refine ⟨fun p hp => ?_, foldT_end (h2 out) (fun o => ?_)⟩
        · rcases List.mem_cons.1 hp with rfl | hp
          · exact h1
          · exact i1 p hp
        · rw [(ih (k + sizeB s k) k _ o hin (by omega) ht b1).2, (begin_piece (out := o) hlt hz).2]
      · simp only [if_true]
        obtain ⟨g1, g2⟩ := goes_on (out := out) hp hlt hz hg
        rw [← g2]
        exact ih (k + sizeB s k) from_ m out hin (by omega) ht g1
    · obtain rfl : k = s.size := by omega
      rw [piecesF, if_neg hlt]
      exact last from_ m out hp
theorem piecesF_len {s : ByteArray} : ∀ (f k from_ : Nat) (m : More), (piecesF s f k from_ m).length ≤ f + 1
  | 0, k, from_, m => by simp [piecesF]
  | f + 1, k, from_, m => by
    rw [piecesF]
    split
    · split
      · have := piecesF_len (s := s) f (k + sizeB s k) from_ m; omega
      · have := piecesF_len (s := s) f (k + sizeB s k) k (More.behind (runeB s k (sizeB s k))); simp; omega
    · simp
theorem pieces_whole {s : ByteArray} (h : textB s = none) : (∀ p ∈ piecesB s, PieceOk s p) ∧ foldT (toksP s (piecesB s)) [] = lexB s :=
  pieces_fold (s.size + 1) 0 0 .white [] (by omega) (by omega) h ⟨by omega, fun q => absurd q (by omega)⟩
theorem pieces_len (s : ByteArray) : (piecesB s).length ≤ s.size + 2 := piecesF_len _ _ _ _

/-! ### a text that is not well-formed -/
def Bad (s : ByteArray) (k p : Nat) : Prop := ∃ f, s.size ≤ k + f ∧ textF s f k = some p
theorem Bad.lt {s : ByteArray} {k p : Nat} (h : Bad s k p) : k ≤ p ∧ p < s.size ∧ sizeB s p = 0 := by
  obtain ⟨f, hf, ht⟩ := h
  induction f generalizing k with
  | zero => exact absurd ht (by simp [textF])
  | succ f ih =>
    rw [textF] at ht
    by_cases hk : k < s.size
    · rw [if_pos hk] at ht
      by_cases hz : sizeB s k = 0
      · rw [if_pos hz] at ht
        injection ht with ht
        subst ht
        exact ⟨Nat.le_refl _, hk, hz⟩
      · rw [if_neg hz] at ht
        have := ih (by omega) ht
        exact ⟨by omega, this.2⟩
    · rw [if_neg hk] at ht; exact absurd ht (by simp)
theorem Bad.step {s : ByteArray} {k p : Nat} (h : Bad s k p) (hk : k < p) : sizeB s k ≠ 0 ∧ Bad s (k + sizeB s k) p := by
  have hl := h.lt
  obtain ⟨f, hf, ht⟩ := h
  cases f with
  | zero => exact absurd ht (by simp [textF])
  | succ f =>
    rw [textF, if_pos (by omega)] at ht
    by_cases hz : sizeB s k = 0
    · rw [if_pos hz] at ht
      injection ht with ht
      omega
    · rw [if_neg hz] at ht
      exact ⟨hz, f, by omega, ht⟩
theorem Bad.digits {s : ByteArray} {p : Nat} : ∀ (f : Nat) (n : Int) (k : Nat), Bad s k p → Bad s (numF s f n k).2 p
  | 0, n, k, h => h
  | f + 1, n, k, h => by
    rw [numF]
    rcases hd : digB s k with _ | _
    · exact h
    · simp only [if_true]
      have hs := size_dig hd
      have hl := h.lt
      have hne : k ≠ p := fun e => by subst e; omega
      have := (h.step (by omega)).2
      rw [hs] at this
      exact Bad.digits f _ (k + 1) this
def headThen (p : Nat) : Option (List Tok) × Nat → Option (List Tok) × Nat
  | (none, q) => (none, q)
  | (some _, _) => (none, p)
theorem lex_head {s t : ByteArray} {p : Nat} (hx : Ext s t 0) (hts : t.size = p) : ∀ (n k : Nat) (c : Bool) (out : List Tok), p - k = n → Bad s k p → lexK s c k out = headThen p (lexK t c k out) := by
  intro n
  induction n using Nat.strongRecOn with
  | ind n ih =>
    intro k c out hn hb
    obtain ⟨l1, l2, l3⟩ := hb.lt
    by_cases hk : k < p
    · obtain ⟨hz, hb2⟩ := hb.step hk
      have l4 := hb2.lt.1
      have e1 : sizeB t k = sizeB s k := by have := hx.sizeB (k := k) (by rw [Nat.zero_add]; exact hz) (by rw [Nat.zero_add]; omega); rwa [Nat.zero_add] at this
      have e2 : bAt t k = bAt s k := by have := hx.at_ k (by omega); rwa [Nat.zero_add] at this
      have e3 : runeB t k (sizeB s k) = runeB s k (sizeB s k) := by have := hx.runeB (k := k) (n := sizeB s k) (by omega) (by omega); rwa [Nat.zero_add] at this
      have e4 : digB t k = digB s k := by have := hx.digB (k := k) (by omega); rwa [Nat.zero_add] at this
      have hend : digB s (0 + t.size) = false := by
        rw [Nat.zero_add, hts]
        rcases hd : digB s p with _ | _
        · rfl
        · have := size_dig hd; omega
      have e5 : numB s k = numB t k := by have := hx.numB hend (k := k) (by omega); rw [Nat.zero_add, Nat.zero_add] at this; exact this
      rw [lexK_open (show k < s.size by omega), lexK_open (show k < t.size by omega), e1, e2, e3, e4, e5, if_neg hz, if_neg hz]
      cases c
      · simp only [Bool.false_eq_true, if_false]
        by_cases h35 : bAt s k = 35
        · rw [if_pos h35, if_pos h35]
          have h1 : sizeB s k = 1 := size_one (inB_yes (by omega) (by omega) (by omega))
          rw [h1] at hb2
          exact ih (p - (k + 1)) (by omega) _ _ _ rfl hb2
        rw [if_neg h35, if_neg h35]
        by_cases hw : bAt s k = 32 ∨ bAt s k = 9 ∨ bAt s k = 10
        · rw [if_pos hw, if_pos hw]
          have h1 : sizeB s k = 1 := size_one (inB_yes (by omega) (by omega) (by omega))
          rw [h1] at hb2
          exact ih (p - (k + 1)) (by omega) _ _ _ rfl hb2
        rw [if_neg hw, if_neg hw]
        rcases hd : digB s k with _ | _
        · simp only [Bool.false_eq_true, if_false]
          exact ih (p - (k + sizeB s k)) (by omega) _ _ _ rfl hb2
        · simp only [if_true]
          have hb3 : Bad s (numB s k).2 p := Bad.digits _ _ _ hb
          have hgt := numB_gt hd
          rw [e5] at hb3 hgt
          by_cases hbad : 1099511627776 < (numB t k).1 ∨ (bAt s k = 48 ∧ k + 1 < (numB t k).2)
          · rw [if_pos hbad, if_pos hbad]; rfl
          · rw [if_neg hbad, if_neg hbad]
            exact ih (p - (numB t k).2) (by omega) _ _ _ rfl hb3
      · simp only [if_true]
        exact ih (p - (k + sizeB s k)) (by omega) _ _ _ rfl hb2
    · obtain rfl : k = p := by omega
      rw [lexK_open l2, if_pos l3, lexK_end (show ¬ k < t.size by omega)]
      rfl
theorem text_head {s t : ByteArray} {p : Nat} (hx : Ext s t 0) (hts : t.size = p) : ∀ (f k : Nat), t.size ≤ k + f → Bad s k p → textF t f k = none := by
  intro f
  induction f with
  | zero => intro k _ _; rfl
  | succ f ih =>
    intro k hf hb
    obtain ⟨l1, l2, l3⟩ := hb.lt
    rw [textF]
    by_cases hk : k < t.size
    · obtain ⟨hz, hb2⟩ := hb.step (by omega)
      have l4 := hb2.lt.1
      have e1 : sizeB t k = sizeB s k := by have := hx.sizeB (k := k) (by rw [Nat.zero_add]; exact hz) (by rw [Nat.zero_add]; omega); rwa [Nat.zero_add] at this
      rw [if_pos hk, e1, if_neg hz]
      exact ih _ (by omega) hb2
    · rw [if_neg hk]
/-- a text that is not well-formed is read up to there. -/
theorem lex_part {s : ByteArray} {p : Nat} (h : textB s = some p) : p < s.size ∧ textB (s.extract 0 p) = none ∧ lexB s = headThen p (lexB (s.extract 0 p)) := by
  have hb : Bad s 0 p := ⟨s.size + 1, by omega, h⟩
  have hl := hb.lt
  have hx : Ext s (s.extract 0 p) 0 := ext_extract (Nat.zero_le _) (by omega)
  have hts : (s.extract 0 p).size = p := by rw [ByteArray.size_extract]; omega
  exact ⟨hl.2.1, text_head hx hts _ 0 (by omega) hb, lex_head hx hts _ 0 false [] rfl hb⟩
end Go.Proofs.YtnipifccalalhaaDoor
