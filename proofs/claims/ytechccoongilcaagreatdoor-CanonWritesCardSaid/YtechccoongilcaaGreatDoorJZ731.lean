import Derived.Test.YtechccoongilcaaGreatDoorJZ730
import Derived.Test.YtechccoongilcaaGreatDoorJZ717
import Derived.Test.YtechccoongilcaaGreatDoorJZ702
import Derived.Handy
import Derived.Test.YtechccoongilcaaGreatDoorJZ703
import Derived.Test.YtechccoongilcaaGreatDoorJZ709
import Derived.Test.YtechccoongilcaaGreatDoorJZ725
import Derived.Test.YtechccoongilcaaGreatDoorJZ722
import Derived.Test.YtechccoongilcaaGreatDoorJZ727
import Derived.Test.YtechccoongilcaaGreatDoorJZ729
/- The program's package read: Of and Is. -/
namespace Go.Proofs.YtechccoongilcaaGreatDoor
open Go.RowKit
set_option linter.unusedVariables false
set_option linter.unusedSimpArgs false
theorem fin_place {s : ByteArray} {toks : List Tok} {q i : Nat} (h : lexB s = (some toks, q)) (hf : Fin toks (none, i)) : ∃ k : Nat, placeB toks s.size i = (k : Int) ∧ Read toks s.size (none, k) := by
  have hr := hf.read (len := s.size)
  have hp : placeB toks s.size i = ((placeB toks s.size i).toNat : Int) := by
    unfold placeB
    rcases ht : toks[i]? with _ | t
    · simp
    · obtain ⟨p, e, hp, _⟩ := tok_stands h ht
      simp only
      omega
  exact ⟨_, hp, hr⟩
/-- what Of answers: the row's length is within its capacity. -/
def OfPostC (w : World) (s : ByteArray) (e : Ending) (w' : World) : Prop :=
  (∃ x A n c, ReadB s (some x, 0) ∧ e = .returned (.tuple #[.slice A n c, .int .i64 0, .int .i64 0]) ∧ Nds w.heap.size w' A n x ∧ Below w.heap.size w w' ∧ n ≤ c) ∨
  (∃ k : Nat, ReadB s (none, k) ∧ e = .returned (.tuple #[.slice none 0 0, .int .i64 (k : Int), .int .i64 1]) ∧ Below w.heap.size w w')
set_option maxHeartbeats 4000000 in
theorem readof_cap (s : ByteArray) (w : World) (hT : Tabs w) (hs : s.size ≤ 600000) : Calls Tryz.prog 12 #[.string s] w (OfPostC w s) := by
  have HT := Lib.hid hT
  clear hT
  go_enter Tryz.func12, Tryz.ntmps12
  go_wp2_with fail
  refine (lexof_any s w HT.out hs).mono ?_
  rintro e w1 (⟨toks, A, n, c, hl, rfl, hR, ⟨hns, hnc, hA⟩, hb⟩ | ⟨k, hl, rfl, hk, hb⟩)
  · have HL := Lib.hid hl
    have HB := Lib.hid hb
    have hlen := hR.1
    have HNR := Lib.hid (newreader_any toks A n c (s.size : Int) w1 hR hnc hA)
    clear hl hR hA hb
    go_wp2_with fail
    refine HNR.out.mono ?_
    rintro e w2 ⟨rb, M, rfl, hrd, hlt, hb2⟩
    have HB2 := Lib.hid (HB.out.trans (hb2.mono HB.out.size))
    have HDC := Lib.hid (document_any hlt hrd (by omega))
    have hs2 := hb2.size
    have hs1 := HB.out.size
    clear hrd hlt hb2 HNR
    go_wp2_with fail
    refine HDC.out.mono ?_
    rintro e w3 ⟨v, i, b, A3, n3, c3, Ao, mo, co, s3, rfl, hd, hy, hn⟩
    have HB3 := Lib.hid (HB2.out.trans (hd.bar.below (B := w.heap.size) (by omega) (by omega)))
    have c3' := hd.rd.cells.2.2.1
    cases v with
    | true =>
      obtain ⟨x, hp, hx, hcap⟩ := hy rfl
      have HX := Lib.hid (hx.up (base' := w.heap.size) (by omega))
      have HP := Lib.hid (show ReadB s (some x, 0) from .inr ⟨toks, 0, HL.out, .ok hp⟩)
      clear hd hy hn hp hx HDC
      go_wp2_with fail
      go_returns
      exact .inl ⟨x, A3, n3, c3, HP.out, rfl, HX.out, HB3.out, hcap⟩
    | false =>
      obtain ⟨k, hk, hr⟩ := fin_place HL.out (hn rfl)
      have HP := Lib.hid (show ReadB s (none, k) from .inr ⟨toks, 0, HL.out, hr⟩)
      have HK := Lib.hid hk
      have HAT := Lib.hid (pat_to (len := s.size) rfl hd.rd)
      clear hd hy hn hr hk HDC
      go_wp2_with fail
      refine HAT.out.mono ?_
      rintro e w4 ⟨rfl, rfl⟩
      rw [HK.out]
      go_wp2_with fail
      go_returns
      exact .inr ⟨k, HP.out, rfl, HB3.out⟩
  · have HP := Lib.hid (show ReadB s (none, k) from .inl ⟨k, hl, rfl⟩)
    have HB := Lib.hid hb
    clear hl hb
    go_wp2_with fail
    go_returns
    exact .inr ⟨k, HP.out, rfl, HB.out⟩
theorem readof_any (s : ByteArray) (w : World) (hT : Tabs w) (hs : s.size ≤ 600000) : Calls Tryz.prog 12 #[.string s] w (OfPost w s) :=
  (readof_cap s w hT hs).mono fun e w' h => h.imp (fun ⟨x, A, n, c, h1, h2, h3, h4, _⟩ => ⟨x, A, n, c, h1, h2, h3, h4⟩) id
end Go.Proofs.YtechccoongilcaaGreatDoor
/- Two documents, one behind the other; a ] behind one; a script cut where it is refused. Nothing of the program's functions stands here. -/
namespace Go.Proofs.YtechccoongilcaaGreatDoor
open Go
set_option linter.unusedVariables false
set_option linter.unusedSimpArgs false
theorem ReadB.doc {s : ByteArray} {x : List Nd} (h : ReadB s (some x, 0)) : ∃ o q, lexB s = (some o, q) ∧ Parse o true 0 [] (.ok x o.length) := by
  rcases h with ⟨k, _, h2⟩ | ⟨o, q, h1, h2⟩
  · cases h2
  · generalize hz : ((some x, 0) : Option (List Nd) × Nat) = z at h2
    cases h2 with
    | ok h3 => injection hz with hz _; injection hz with hz; subst hz; exact ⟨o, q, h1, h3⟩
    | rest _ _ => cases hz
    | bad _ _ => cases hz
    | short _ _ => cases hz
section
variable {a b t : ByteArray} (h : Parted a b t)
include h
theorem both_ok {x y : List Nd} (ha : ReadB a (some x, 0)) (hb : ReadB b (some y, 0)) : ReadB t (some (x ++ y), 0) := by
  obtain ⟨o, q, h1, h2⟩ := ha.doc
  obtain ⟨l, q', h3, h4⟩ := hb.doc
  have ht := h.lexB_both h1
  rw [h3] at ht
  refine .inr ⟨_, _, ht, .ok ?_⟩
  have := h2.both (A := a.size + 1) h4
  rw [List.length_append, List.length_map]
  exact this
theorem both_bad {x : List Nd} {k : Nat} (ha : ReadB a (some x, 0)) (hb : ReadB b (none, k)) : ∃ k', ReadB t (none, k') := by
  obtain ⟨o, q, h1, h2⟩ := ha.doc
  have ht := h.lexB_both h1
  rcases hb with ⟨k', h3, _⟩ | ⟨l, q', h3, h4⟩
  · rw [h3] at ht
    exact ⟨_, .inl ⟨_, ht, rfl⟩⟩
  · rw [h3] at ht
    have hat : ∀ (p : Nat) (tk : Tok), l[p]? = some tk → (o ++ l.map (shiftT (a.size + 1)))[o.length + p]? = some (shiftT (a.size + 1) tk) := fun p tk hp => by
      rw [List.getElem?_append_right (by omega), Nat.add_sub_cancel_left, List.getElem?_map, hp]; rfl
    generalize hz : ((none, k) : Option (List Nd) × Nat) = z at h4
    cases h4 with
    | ok _ => cases hz
    | rest h5 h6 => exact ⟨_, .inr ⟨_, _, ht, .rest (h2.both (A := a.size + 1) h5) (hat _ _ h6)⟩⟩
    | bad h5 h6 => exact ⟨_, .inr ⟨_, _, ht, .bad (h2.both (A := a.size + 1) h5) (hat _ _ h6)⟩⟩
    | short h5 h6 => exact ⟨_, .inr ⟨_, _, ht, .short (h2.both (A := a.size + 1) h5) (by rw [List.length_append, List.length_map]; omega)⟩⟩
end
theorem bracket_bad {a t : ByteArray} (h : Parted a ⟨#[93]⟩ t) {x : List Nd} (ha : ReadB a (some x, 0)) : ReadB t (none, a.size + 1) := by
  obtain ⟨o, q, h1, h2⟩ := ha.doc
  have ht := h.lexB_both h1
  rw [show lexB ⟨#[93]⟩ = (some [⟨1, 93, 0, 0⟩], 0) by decide +kernel] at ht
  have hp : Parse [⟨1, 93, 0, 0⟩] true 0 [] (.ok [] 0) := .stop (by decide)
  have hb := h2.both (A := a.size + 1) hp
  have hx : (o ++ [(⟨1, 93, 0, 0⟩ : Tok)].map (shiftT (a.size + 1)))[o.length + 0]? = some ⟨1, 93, 0, 0 + ((a.size + 1 : Nat) : Int)⟩ := by
    rw [List.getElem?_append_right (by omega), Nat.add_sub_cancel_left]; rfl
  have hr := Read.rest (len := t.size) hb hx
  have he : (0 + ((a.size + 1 : Nat) : Int)).toNat = a.size + 1 := by omega
  simp only [he] at hr
  exact .inr ⟨_, _, ht, hr⟩
/-- refused at k: k lies within; cut there, it is a document or refused there, if its tokens may be. -/
theorem ReadB.place {s : ByteArray} {k : Nat} (h : ReadB s (none, k)) : k ≤ s.size ∨ ∃ p, lexB s = (none, p) ∧ k = p := by
  rcases h with ⟨p, h1, h2⟩ | ⟨o, q, h1, h2⟩
  · injection h2 with _ h2; exact .inr ⟨p, h1, h2⟩
  · exact .inl (read_place h1 h2)
theorem ReadB.cut {s a : ByteArray} {k : Nat} {o : List Tok} {q : Nat} (h : ReadB s (none, k)) (ho : lexB s = (some o, q)) (hh : Headed a s) (ha : a.size = k) : ∃ r, ReadB a r ∧ (r.1.isSome = true ∨ r = (none, k)) := by
  rcases h with ⟨p, h1, _⟩ | ⟨o', q', h1, h2⟩
  · rw [ho] at h1; injection h1 with h1 _; cases h1
  · obtain ⟨o2, q2, r, h3, h4, h5⟩ := read_cut h1 h2 hh ha
    exact ⟨r, .inr ⟨o2, q2, h3, h4⟩, h5⟩
theorem doc_len {s : ByteArray} {x : List Nd} (h : ReadB s (some x, 0)) : x.length ≤ s.size := by
  obtain ⟨o, q, h1, h2⟩ := h.doc
  have h3 := h2.len _ _ rfl
  have h4 := lexF_len _ _ _ _ _ _ (by omega) h1
  simp only [List.length_nil, Nat.zero_add, Nat.add_zero] at h3 h4
  omega
end Go.Proofs.YtechccoongilcaaGreatDoor
/- A canonical text is no longer than so many of its script's bytes. Nothing of the program stands here. -/
namespace Go.Proofs.YtechccoongilcaaGreatDoor
open Go
set_option linter.unusedVariables false
set_option linter.unusedSimpArgs false
theorem attr_tok (c n p : Int) : tokN (attrP c n p) ≤ 2 := by
  unfold attrP
  split
  · exact Nat.zero_le _
  · exact Nat.le_refl 2
theorem attr_pieces (c n p : Int) : (attrP c n p).length = tokN (attrP c n p) := by
  unfold attrP
  split <;> rfl
theorem sty_pieces (s : Sty) : (styP s).length = tokN (styP s) := by
  unfold styP
  simp only [List.length_append, tokN_append, attr_pieces]
theorem with_tok (s : Sty) (c n : Int) : tokN (styP (withB s c n)) ≤ tokN (styP s) + 2 := by
  have h1 := attr_tok 109 n 0
  have h2 := attr_tok 110 n 0
  have h3 := attr_tok 112 n 0
  have h4 := attr_tok 113 n 0
  have h5 := attr_tok 105 n 0
  have h6 := attr_tok 111 n 2
  have h7 := attr_tok 119 n 2
  have h8 := attr_tok 104 n 0
  have h9 := attr_tok 66 n 0
  have h10 := attr_tok 65 n 0
  have h11 := attr_tok 73 n 0
  have h12 := attr_tok 99 n 0
  obtain ⟨s0, s1, s2, s3, s4, s5, s6, s7, s8, s9, s10, s11⟩ := s
  unfold withB
  by_cases e0 : c = 109
  · rw [if_pos e0]; simp only [styP, tokN_append]; omega
  rw [if_neg e0]
  by_cases e1 : c = 110
  · rw [if_pos e1]; simp only [styP, tokN_append]; omega
  rw [if_neg e1]
  by_cases e2 : c = 112
  · rw [if_pos e2]; simp only [styP, tokN_append]; omega
  rw [if_neg e2]
  by_cases e3 : c = 113
  · rw [if_pos e3]; simp only [styP, tokN_append]; omega
  rw [if_neg e3]
  by_cases e4 : c = 105
  · rw [if_pos e4]; simp only [styP, tokN_append]; omega
  rw [if_neg e4]
  by_cases e5 : c = 111
  · rw [if_pos e5]; simp only [styP, tokN_append]; omega
  rw [if_neg e5]
  by_cases e6 : c = 119
  · rw [if_pos e6]; simp only [styP, tokN_append]; omega
  rw [if_neg e6]
  by_cases e7 : c = 104
  · rw [if_pos e7]; simp only [styP, tokN_append]; omega
  rw [if_neg e7]
  by_cases e8 : c = 66
  · rw [if_pos e8]; simp only [styP, tokN_append]; omega
  rw [if_neg e8]
  by_cases e9 : c = 65
  · rw [if_pos e9]; simp only [styP, tokN_append]; omega
  rw [if_neg e9]
  by_cases e10 : c = 73
  · rw [if_pos e10]; simp only [styP, tokN_append]; omega
  rw [if_neg e10]
  by_cases e11 : c = 99
  · rw [if_pos e11]; simp only [styP, tokN_append]; omega
  rw [if_neg e11]
  omega
theorem Attrs.tok {l : List Tok} {i : Nat} {s : Sty} {told : List Int} {r : Res Sty} (h : Attrs l i s told r) : ∀ s' a, r = .ok s' a → tokN (styP s') + i ≤ tokN (styP s) + a := by
  induction h with
  | stop _ => intro s' a e; cases e; exact Nat.le_refl _
  | bad _ _ => intro s' a e; cases e
  | @step i s told r h1 h2 _ ih =>
    intro s' a e
    have h3 := ih s' a e
    have h4 := with_tok s (letterB l i told) (nAt l (i + 1))
    omega
theorem Words.tok {l : List Tok} {k : Nat} {out ws : List Int} {b : Nat} (h : Words l k out ws b) : ws.length + k = out.length + b := by
  induction h with
  | stop _ => rfl
  | step _ _ ih => rw [List.length_append, List.length_singleton] at ih; omega
theorem tok_leaf_text (line space : Int) (ws : List Int) : tokN (canP [] [txt line space ws]) = 4 + ws.length := by
  have h := canP_cons [] (txt line space ws) [] [] rfl
  have hl : leafP (txt line space ws) = [.s 40, .n line.toNat, .b 32, .n space.toNat] ++ wordsP ws ++ [.s 41] := rfl
  rw [show canP [] [txt line space ws] = _ from h, canP_nil, if_neg (show ¬ (txt line space ws).kind = 1 from (show ¬ (2 : Int) = 1 by decide)), hl]
  simp only [tokN_append, tok_words, tokN]
  omega
theorem tok_leaf_box (kind side w h : Int) (hk : kind = 3 ∨ kind = 4 ∧ (side = 1 ∨ side = 2)) : tokN (canP [] [box_ kind side w h]) = (if kind = 3 then 4 else 5) := by
  have e := canP_cons [] (box_ kind side w h) [] [] rfl
  rw [show canP [] [box_ kind side w h] = _ from e, canP_nil]
  rcases hk with rfl | ⟨rfl, rfl | rfl⟩
  · rw [if_neg (show ¬ (box_ 3 side w h).kind = 1 from (show ¬ (3 : Int) = 1 by decide))]; rfl
  · rw [if_neg (show ¬ (box_ 4 1 w h).kind = 1 from (show ¬ (4 : Int) = 1 by decide))]; rfl
  · rw [if_neg (show ¬ (box_ 4 2 w h).kind = 1 from (show ¬ (4 : Int) = 1 by decide))]; rfl
theorem boxR_tok {l : List Tok} {i : Nat} {kind side e : Int} {x : List Nd} {b : Nat} (hk : kind = 3 ∨ kind = 4 ∧ (side = 1 ∨ side = 2)) (h : boxR l i kind side e = .ok x b) : b = i + 3 ∧ tokN (canP [] x) = (if kind = 3 then 4 else 5) := by
  unfold boxR at h
  split at h
  · cases h
  split at h
  · cases h
  split at h
  · cases h
  · cases h
    exact ⟨rfl, tok_leaf_box _ _ _ _ hk⟩
theorem Parse.tok {l : List Tok} {t : Bool} {i : Nat} {out : List Nd} {r : Res (List Nd)} (h : Parse l t i out r) : Forest out → ∀ x b, r = .ok x b → tokN (canP [] x) + i ≤ tokN (canP [] out) + b := by
  induction h with
  | stop _ => intro _ x b e; cases e; exact Nat.le_refl _
  | more _ hp _ ih1 ih2 =>
    intro hf x b e
    have hf1 := hp.forest .nil _ _ rfl
    have h1 := ih1 .nil _ _ rfl
    have h2 := ih2 (hf.append hf1) x b e
    rw [canP_append [] hf, tokN_append] at h2
    rw [canP_nil] at h1
    simp only [tokN] at h1
    omega
  | fail _ _ _ => intro _ x b e; cases e
  | blockA _ _ => intro _ x b e; cases e
  | blockN _ _ _ _ => intro _ x b e; cases e
  | blockE _ _ _ _ _ => intro _ x b e; cases e
  | @block i s a inner b0 _ ha hp _ ih =>
    intro _ x b e
    cases e
    have h1 := ha.tok _ _ rfl
    have h2 := ih .nil _ _ rfl
    have h3 := canP_cons [] (blk s inner) inner [] rfl
    rw [List.append_nil, canP_nil, List.append_nil, List.append_nil, if_pos (show (blk s inner).kind = 1 from rfl)] at h3
    rw [h3]
    rw [canP_nil] at h2 ⊢
    have h4 : tokN (styP Sty.plain) = 0 := rfl
    have h5 : (blk s inner).sty = s := rfl
    simp only [tokN_append, tokN, h5] at h1 h2 ⊢
    omega
  | textL _ _ => intro _ x b e; cases e
  | textS _ _ _ => intro _ x b e; cases e
  | textW _ _ _ _ _ => intro _ x b e; cases e
  | text _ _ _ hw _ _ =>
    intro _ x b e
    cases e
    have h1 := hw.tok
    rw [tok_leaf_text, canP_nil]
    simp only [tokN, List.length_nil] at h1 ⊢
    omega
  | mono _ =>
    intro _ x b e
    obtain ⟨h1, h2⟩ := boxR_tok (.inl rfl) e
    rw [h2, if_pos rfl, h1]
    omega
  | left _ _ =>
    intro _ x b e
    obtain ⟨h1, h2⟩ := boxR_tok (.inr ⟨rfl, .inl rfl⟩) e
    rw [h2, if_neg (by decide), h1]
    omega
  | right _ _ =>
    intro _ x b e
    obtain ⟨h1, h2⟩ := boxR_tok (.inr ⟨rfl, .inr rfl⟩) e
    rw [h2, if_neg (by decide), h1]
    omega
  | side _ _ _ => intro _ x b e; cases e
theorem words_pieces (ws : List Int) : (wordsP ws).length = 2 * tokN (wordsP ws) := by rw [wordsP_len, tok_words]
theorem leaf_pieces {x : Nd} (h : x.fits) (hk : x.kind ≠ 1) : (leafP x).length + 1 ≤ 2 * tokN (leafP x) ∧ x.words.length ≤ tokN (leafP x) := by
  unfold leafP
  rcases h with ⟨e, _⟩ | ⟨e, _⟩ | ⟨e, _, _, _, hw, _⟩ | ⟨e, _, _, _, hw, _, _, h1, h2⟩
  · exact absurd e hk
  · rw [if_pos e]
    have := wordsP_len x.words
    simp only [List.length_append, tokN_append, tok_words, tokN, List.length_cons, List.length_nil]
    omega
  · rw [if_neg (by omega), if_pos e, hw]
    exact ⟨by simp [tokN], Nat.zero_le _⟩
  · rw [if_neg (by omega), if_neg (by omega), hw]
    rcases (show x.side = 1 ∨ x.side = 2 by omega) with hs | hs
    · rw [if_pos ⟨e, hs⟩]; exact ⟨by simp [tokN], Nat.zero_le _⟩
    · rw [if_neg (by omega), if_pos ⟨e, hs⟩]; exact ⟨by simp [tokN], Nat.zero_le _⟩
theorem can_pieces {l : List Nd} (hF : Forest l) : (∀ x ∈ l, x.fits) → ∀ (b : List Pc), b.length ≤ 1 → tokN b = 0 → (canP b l).length ≤ 2 * tokN (canP [] l) ∧ ∀ x ∈ l, x.words.length ≤ tokN (canP [] l) := by
  induction hF with
  | nil => intro _ b _ _; exact ⟨by simp [canP_nil], fun x hx => by cases hx⟩
  | @cons x inner rest hs hk h1 h2 ih1 ih2 =>
    intro hf b hb ht
    have hx := hf x (by simp)
    obtain ⟨e1, e1'⟩ := ih1 (fun y hy => hf y (by simp [hy])) [] (by simp) rfl
    obtain ⟨e2, e2'⟩ := ih2 (fun y hy => hf y (by simp [hy])) b hb ht
    rw [canP_cons b x inner rest hs, canP_cons [] x inner rest hs]
    simp only [List.length_append, tokN_append, List.append_nil]
    by_cases h1 : x.kind = 1
    · rw [if_pos h1]
      have e3 := sty_pieces x.sty
      simp only [List.length_append, tokN_append, List.length_cons, List.length_nil, tokN]
      refine ⟨by omega, fun y hy => ?_⟩
      have hw1 : x.words = [] := by
        rcases hx with ⟨_, _, _, _, hw, _⟩ | ⟨e, _⟩ | ⟨e, _⟩ | ⟨e, _⟩
        · exact hw
        · omega
        · omega
        · omega
      rcases List.mem_cons.1 hy with rfl | hy
      · rw [hw1]; exact Nat.zero_le _
      rcases List.mem_append.1 hy with hy | hy
      · have := e1' y hy; omega
      · have := e2' y hy; omega
    · rw [if_neg h1]
      obtain ⟨e3, e4⟩ := leaf_pieces hx h1
      have hi := hk h1
      subst hi
      refine ⟨by omega, fun y hy => ?_⟩
      rcases List.mem_cons.1 hy with rfl | hy
      · omega
      · have := e2' y (by simpa using hy); omega
theorem doc_toks {s : ByteArray} {x : List Nd} (h : ReadB s (some x, 0)) : tokN (canP [] x) ≤ s.size := by
  obtain ⟨o, q, h1, h2⟩ := h.doc
  have h3 := h2.tok .nil _ _ rfl
  have h4 := lexF_len _ _ _ _ _ _ (by omega) h1
  rw [canP_nil] at h3
  simp only [List.length_nil, Nat.zero_add, Nat.add_zero, tokN] at h3 h4
  omega
theorem read_doc {s : ByteArray} {x : List Nd} (h : ReadB s (some x, 0)) : IsDoc x := by
  obtain ⟨o, q, h1, h2⟩ := h.doc
  exact ⟨h2.fits (fun y hy => by cases hy) _ _ rfl, h2.forest .nil _ _ rfl⟩
theorem doc_words {s : ByteArray} {x : List Nd} (h : ReadB s (some x, 0)) : ∀ y ∈ x, y.words.length ≤ s.size := fun y hy => by
  have hd := read_doc h
  have h1 := (can_pieces hd.2 hd.1 [] (by simp) rfl).2 y hy
  have h2 := doc_toks h
  omega
/-- a script's canonical text: its size. -/
theorem can_short {s : ByteArray} {x : List Nd} (h : ReadB s (some x, 0)) : (canS x).size ≤ 26 * s.size := by
  have hd := read_doc h
  have h1 := (can_pieces hd.2 hd.1 [.b 10] (by simp) rfl).1
  have h2 := doc_toks h
  have h3 := text_len (canP [.b 10] x) (fine_can hd.2 hd.1 _ (fine_cons (show (Pc.b 10).fine from .inr rfl) fine_nil))
  have h4 : (canS x).size = (textOf (canP [.b 10] x)).length := bytesOf_size _
  omega
end Go.Proofs.YtechccoongilcaaGreatDoor
/- The program's package canon: Of; the chapter's examples. -/
namespace Go.Proofs.YtechccoongilcaaGreatDoor
open Go.RowKit
set_option linter.unusedVariables false
set_option linter.unusedSimpArgs false
/-- what Of answers. -/
def COfPost (w : World) (s : ByteArray) (e : Ending) (w' : World) : Prop :=
  (∃ x, ReadB s (some x, 0) ∧ e = .returned (.tuple #[.string (canS x), .int .i64 0, .int .i64 0]) ∧ Below w.heap.size w w') ∨
  (∃ k : Nat, ReadB s (none, k) ∧ e = .returned (.tuple #[.string ⟨#[]⟩, .int .i64 (k : Int), .int .i64 1]) ∧ Below w.heap.size w w')
theorem cof_ok {w w' : World} {s : ByteArray} {e : Ending} {x : List Nd} (h : ReadB s (some x, 0)) (hp : COfPost w s e w') : e = .returned (.tuple #[.string (canS x), .int .i64 0, .int .i64 0]) ∧ Below w.heap.size w w' := by
  rcases hp with ⟨x', h1, h2, h3⟩ | ⟨k, h1, _⟩
  · have := h.det h1
    injection this with h5 _; injection h5 with h5; subst h5
    exact ⟨h2, h3⟩
  · have := h.det h1
    injection this with h5 _; cases h5
theorem cof_bad {w w' : World} {s : ByteArray} {e : Ending} {k : Nat} (h : ReadB s (none, k)) (hp : COfPost w s e w') : e = .returned (.tuple #[.string ⟨#[]⟩, .int .i64 (k : Int), .int .i64 1]) ∧ Below w.heap.size w w' := by
  rcases hp with ⟨x', h1, _⟩ | ⟨k', h1, h2, h3⟩
  · have := h.det h1
    injection this with h5 _; cases h5
  · have := h.det h1
    injection this with _ h5; subst h5
    exact ⟨h2, h3⟩
set_option maxHeartbeats 2000000 in
set_option maxRecDepth 100000 in
theorem cof_any (s : ByteArray) (w : World) (hT : TabsB w) (hs : s.size ≤ 100000) : Calls Tryz.prog 14 #[.string s] w (COfPost w s) := by
  have HT := Lib.hid hT
  clear hT
  go_enter Tryz.func14, Tryz.ntmps14
  go_wp2_with fail
  refine (readof_any s w HT.out.1 (by omega)).mono ?_
  rintro e w1 (⟨x, A, n, c, hr, rfl, hN, hb⟩ | ⟨k, hr, rfl, hb⟩)
  · have HR := Lib.hid hr
    have hdl := doc_len hr
    have hxl := hN.len
    have HX := Lib.hid (text_any x A n c w1 (read_doc hr) hN.sees (HT.out.below hb).2 (by omega) (fun y hy => by have := doc_words hr y hy; omega))
    have HB := Lib.hid hb
    clear hr hN hb hxl hdl
    go_wp2_with fail
    refine HX.out.mono ?_
    rintro e w2 ⟨rfl, hb2⟩
    have HB2 := Lib.hid (below_then HB.out hb2)
    clear hb2
    go_wp2_with fail
    go_returns
    exact .inl ⟨x, HR.out, rfl, HB2.out⟩
  · have HR := Lib.hid hr
    have HB := Lib.hid hb
    clear hr hb
    go_wp2_with fail
    go_returns
    exact .inr ⟨k, HR.out, rfl, HB.out⟩
set_option maxHeartbeats 2000000 in
set_option maxRecDepth 100000 in
theorem cis_to {s : ByteArray} {x : List Nd} {want : ByteArray} (hr : ReadB s (some x, 0)) (hw : canS x = want) (w : World) (hT : TabsB w) (hs : s.size ≤ 100000) : Calls Tryz.prog 15 #[.string s, .string want] w fun e w' => e = .returned (.bool true) ∧ Below w.heap.size w w' := by
  have HR := Lib.hid hr
  have HW := Lib.hid hw
  have HT := Lib.hid hT
  clear hr hw hT
  go_enter Tryz.func15, Tryz.ntmps15
  go_wp2_with fail
  refine (cof_any s w HT.out hs).mono ?_
  intro e w1 hp
  obtain ⟨rfl, hb⟩ := cof_ok HR.out hp
  have HB := Lib.hid hb
  rw [HW.out]
  clear hp hb
  go_wp2_with fail
  go_ret
  exact ⟨rfl, HB.out⟩
def bytesW (l : List Nat) : ByteArray := ⟨(l.map UInt8.ofNat).toArray⟩
def ex1 : List Nd := [⟨1, 2, ⟨5, 0, 0, 0, 0, 2, 2, 0, 2, 0, 0, 0⟩, 0, 0, [], 0, 0, 0⟩, ⟨2, 1, .none, 10, 2, [30, 40], 0, 0, 0⟩, ⟨3, 1, .none, 0, 0, [], 0, 3, 4⟩]
def ex2 : List Nd := [⟨1, 2, ⟨0, 0, 0, 0, 0, 2, 3, 0, 0, 0, 0, 0⟩, 0, 0, [], 0, 0, 0⟩, ⟨4, 1, .none, 0, 0, [], 2, 1, 2⟩]
theorem dig10 : digitsL 10 = [49, 48] := by rw [digitsL, if_neg (by decide), show 10 / 10 = 1 from rfl, digitsL, if_pos (by decide)]; rfl
theorem dig30 : digitsL 30 = [51, 48] := by rw [digitsL, if_neg (by decide), show 30 / 10 = 3 from rfl, digitsL, if_pos (by decide)]; rfl
theorem dig40 : digitsL 40 = [52, 48] := by rw [digitsL, if_neg (by decide), show 40 / 10 = 4 from rfl, digitsL, if_pos (by decide)]; rfl
theorem dig1 : digitsL 1 = [49] := by rw [digitsL, if_pos (by decide)]; rfl
theorem dig2 : digitsL 2 = [50] := by rw [digitsL, if_pos (by decide)]; rfl
theorem dig3 : digitsL 3 = [51] := by rw [digitsL, if_pos (by decide)]; rfl
theorem dig4 : digitsL 4 = [52] := by rw [digitsL, if_pos (by decide)]; rfl
theorem dig5 : digitsL 5 = [53] := by rw [digitsL, if_pos (by decide)]; rfl
theorem can1 : canP [.b 10] ex1 = [.s 91, .s 109, .n 5, .s 66, .n 2, .s 40, .n 10, .b 32, .n 2, .b 32, .n 30, .b 32, .n 40, .s 41, .s 93, .b 10, .s 123, .n 3, .b 32, .n 4, .s 125, .b 10] := by decide +kernel
theorem can2 : canP [.b 10] ex2 = [.s 91, .s 119, .n 3, .s 60, .s 82, .n 1, .b 32, .n 2, .s 62, .s 93, .b 10] := by decide +kernel
theorem str1 : canS ex1 = ⟨#[91, 109, 53, 66, 50, 40, 49, 48, 32, 50, 32, 51, 48, 32, 52, 48, 41, 93, 10, 123, 51, 32, 52, 125, 10]⟩ := by
  unfold canS canT
  rw [can1]
  simp only [textOf, List.flatMap_cons, List.flatMap_nil, Pc.bytes, dig10, dig30, dig40, dig2, dig3, dig4, dig5]
  rfl
theorem str2 : canS ex2 = ⟨#[91, 119, 51, 60, 82, 49, 32, 50, 62, 93, 10]⟩ := by
  unfold canS canT
  rw [can2]
  simp only [textOf, List.flatMap_cons, List.flatMap_nil, Pc.bytes, dig1, dig2, dig3]
  rfl
theorem str0 : canS [] = ⟨#[]⟩ := rfl
theorem evB : evalF ⟨#[91, 66, 50, 32, 109, 32, 53, 32, 40, 49, 48, 32, 50, 32, 51, 48, 32, 52, 48, 41, 32, 35, 32, 115, 111]⟩ = some (none, 25) := by decide +kernel
theorem ev1 : evalF ⟨#[91, 66, 50, 32, 109, 32, 53, 32, 40, 49, 48, 32, 50, 32, 51, 48, 32, 52, 48, 41, 93, 32, 123, 32, 51, 32, 32, 52, 32, 125]⟩ = some (some ex1, 0) := by decide +kernel
theorem ev2 : evalF ⟨#[91, 111, 50, 32, 119, 51, 32, 109, 48, 32, 60, 82, 32, 49, 32, 50, 62, 93]⟩ = some (some ex2, 0) := by decide +kernel
theorem ev0 : evalF ⟨#[]⟩ = some (some [], 0) := by decide +kernel
set_option maxHeartbeats 4000000 in
set_option maxRecDepth 100000 in
theorem cawake_any (w : World) (hT : TabsB w) : Calls Tryz.prog 6 #[] w fun e w' => e = .returned (.bool true) ∧ Below w.heap.size w w' := by
  have HT := Lib.hid hT
  clear hT
  go_enter Tryz.func6, Tryz.ntmps6
  go_wp2_with fail
  refine (cof_any _ w HT.out (by decide)).mono ?_
  intro e w1 hp
  obtain ⟨rfl, hb⟩ := cof_bad (evalF_ok evB) hp
  have HB := Lib.hid hb
  clear hp hb
  go_wp2_with fail
  refine (cis_to (evalF_ok ev1) str1 _ (HT.out.below HB.out) (by decide)).mono ?_
  rintro e w2 ⟨rfl, hb⟩
  have HB2 := Lib.hid (below_then HB.out hb)
  clear hb
  go_wp2_with fail
  refine (cis_to (evalF_ok ev2) str2 _ (HT.out.below HB2.out) (by decide)).mono ?_
  rintro e w3 ⟨rfl, hb⟩
  have HB3 := Lib.hid (below_then HB2.out hb)
  clear hb
  go_wp2_with fail
  refine (cis_to (evalF_ok ev0) str0 _ (HT.out.below HB3.out) (by decide)).mono ?_
  rintro e w4 ⟨rfl, hb⟩
  have HB4 := Lib.hid (below_then HB3.out hb)
  clear hb
  go_wp2_with fail
  go_ret
  exact ⟨rfl, HB4.out⟩
end Go.Proofs.YtechccoongilcaaGreatDoor
/- Package canon: Write, the program's and the document's. -/
namespace Go.Proofs.YtechccoongilcaaGreatDoor
open Go.RowKit
set_option linter.unusedVariables false
set_option linter.unusedSimpArgs false
def wrA (l : List Nd) : ByteArray × Int := if docB l = true then (canS l, 0) else (⟨#[]⟩, 4)
theorem wrA_doc {l : List Nd} (h : IsDoc l) : wrA l = (canS l, 0) := by unfold wrA; rw [if_pos ((docB_iff l).2 h)]
theorem wrA_no {l : List Nd} (h : ¬ IsDoc l) : wrA l = (⟨#[]⟩, 4) := by unfold wrA; rw [if_neg (fun e => h ((docB_iff l).1 e))]
theorem lf_bytes7 : pcS [.b 10] = ⟨#[10]⟩ := rfl
/-- nodes that can be read, not too many. -/
def Few (l : List Nd) (w : World) (A : Option Addr) (n : Nat) : Prop := Sees w A n l ∧ n ≤ 100000 ∧ ∀ y ∈ l, y.words.length ≤ 100000
theorem Few.below {l : List Nd} {w w' : World} {A : Option Addr} {n : Nat} (h : Few l w A n) (hb : Below w.heap.size w w') : Few l w' A n := ⟨h.1.below hb, h.2⟩
theorem vtext_doc7 {x : List Nd} {A : Option Addr} {n ca : Nat} {w : World} (hd : IsDoc x) (h : Few x w A n) : Calls Tryz.prog 18 #[.slice A n ca, .int .i64 0, .int .i64 (n : Int), .string ⟨#[10]⟩] w fun e w' => e = .returned (.string (canS x)) ∧ Below w.heap.size w w' :=
  vtext_all x A n ca h.2.1 h.2.2 x.length [.b 10] x [] [] 0 w (Nat.le_refl _) rfl (by simp) hd.2 hd.1 (by simp) fine_lf h.1 _ lf_bytes7 (n : Int) (by rw [h.1.len]; simp) _ rfl
set_option maxHeartbeats 2000000 in
set_option maxRecDepth 100000 in
theorem cwrite_to {l : List Nd} {s : ByteArray} {f : Int} (ha : wrA l = (s, f)) {A : Option Addr} {n ca : Nat} {w : World} (h : Few l w A n) (hT : TabsB w) : Calls Tryz.prog 8 #[.slice A n ca] w fun e w' => e = .returned (.tuple #[.string s, .int .i64 f]) ∧ Below w.heap.size w w' := by
  have H := Lib.hid h
  have HT := Lib.hid hT
  clear h hT
  by_cases hd : IsDoc l
  · rw [wrA_doc hd] at ha
    injection ha with ha1 ha2
    subst ha2
    have HS := Lib.hid ha1
    have HD := Lib.hid hd
    have HV := Lib.hid ((docB_iff l).2 hd)
    clear ha1 hd
    go_enter Tryz.func8, Tryz.ntmps8
    go_wp2_with fail
    refine (pIs_to HV.out ⟨H.out.1, H.out.2.1⟩).mono ?_
    rintro e w1 ⟨rfl, hb⟩
    have HB := Lib.hid hb
    clear hb
    go_wp2_with fail
    refine (text_any l A n ca _ HD.out (H.out.1.below HB.out) (HT.out.below HB.out).2 H.out.2.1 H.out.2.2).mono ?_
    rintro e w2 ⟨rfl, hb⟩
    rw [HS.out]
    have HB2 := Lib.hid (below_then HB.out hb)
    clear hb
    go_wp2_with fail
    go_ret2
    exact ⟨rfl, HB2.out⟩
  · rw [wrA_no hd] at ha
    injection ha with ha1 ha2
    subst ha1 ha2
    have HV := Lib.hid (show docB l = false by rcases hq : docB l with _ | _; rfl; exact absurd ((docB_iff l).1 hq) hd)
    clear hd
    go_enter Tryz.func8, Tryz.ntmps8
    go_wp2_with fail
    refine (pIs_to HV.out ⟨H.out.1, H.out.2.1⟩).mono ?_
    rintro e w1 ⟨rfl, hb⟩
    have HB := Lib.hid hb
    clear hb
    go_wp2_with fail
    go_ret2
    exact ⟨rfl, HB.out⟩
set_option maxHeartbeats 2000000 in
set_option maxRecDepth 100000 in
theorem vwrite_to {l : List Nd} {s : ByteArray} {f : Int} (ha : wrA l = (s, f)) {A : Option Addr} {n ca : Nat} {w : World} (h : Few l w A n) : Calls Tryz.prog 9 #[.slice A n ca] w fun e w' => e = .returned (.tuple #[.string s, .int .i64 f]) ∧ Below w.heap.size w w' := by
  have H := Lib.hid h
  clear h
  by_cases hd : IsDoc l
  · rw [wrA_doc hd] at ha
    injection ha with ha1 ha2
    subst ha2
    have HS := Lib.hid ha1
    have HD := Lib.hid hd
    have HV := Lib.hid ((docB_iff l).2 hd)
    clear ha1 hd
    go_enter Tryz.func9, Tryz.ntmps9
    go_wp2_with fail
    refine (vIs_to HV.out H.out.1).mono ?_
    rintro e w1 ⟨rfl, hb⟩
    have HB := Lib.hid hb
    clear hb
    go_wp2_with fail
    refine (vtext_doc7 HD.out (H.out.below HB.out)).mono ?_
    rintro e w2 ⟨rfl, hb⟩
    rw [HS.out]
    have HB2 := Lib.hid (below_then HB.out hb)
    clear hb
    go_wp2_with fail
    go_ret2
    exact ⟨rfl, HB2.out⟩
  · rw [wrA_no hd] at ha
    injection ha with ha1 ha2
    subst ha1 ha2
    have HV := Lib.hid (show docB l = false by rcases hq : docB l with _ | _; rfl; exact absurd ((docB_iff l).1 hq) hd)
    clear hd
    go_enter Tryz.func9, Tryz.ntmps9
    go_wp2_with fail
    refine (vIs_to HV.out H.out.1).mono ?_
    rintro e w1 ⟨rfl, hb⟩
    have HB := Lib.hid hb
    clear hb
    go_wp2_with fail
    go_ret2
    exact ⟨rfl, HB.out⟩
/-- nodes more than are gone through. -/
def vastB (l : List Nd) : Bool := decide (200 < l.length) || l.any fun x => decide (100 < x.words.length)
theorem vastB_no {l : List Nd} (h : vastB l = false) : l.length ≤ 200 ∧ ∀ y ∈ l, y.words.length ≤ 100 := by
  unfold vastB at h
  simp only [Bool.or_eq_false_iff, decide_eq_false_iff_not, List.any_eq_false, decide_eq_true_eq] at h
  exact ⟨by omega, fun y hy => by have := h.2 y hy; omega⟩
theorem vastB_of {l : List Nd} (h1 : l.length ≤ 200) (h2 : ∀ (j : Nat) (x : Nd), j < l.length → l[j]? = some x → x.words.length ≤ 100) : vastB l = false := by
  unfold vastB
  simp only [Bool.or_eq_false_iff, decide_eq_false_iff_not, List.any_eq_false, decide_eq_true_eq]
  refine ⟨by omega, fun y hy => ?_⟩
  obtain ⟨j, hj, rfl⟩ := List.getElem_of_mem hy
  have := h2 j _ hj (List.getElem?_eq_getElem hj)
  omega
set_option maxHeartbeats 2000000 in
set_option maxRecDepth 100000 in
theorem vast7_to {l : List Nd} {v : Bool} (hv : vastB l = v) {A : Option Addr} {n ca : Nat} {w : World} (h : Sees w A n l) : Calls Tryz.prog 5 #[.slice A n ca] w fun e w' => e = .returned (.bool v) ∧ w = w' := by
  have hla := h.len
  have hbd := h.bound
  have HA := Lib.hid h
  have HV := Lib.hid hv
  clear h hv
  by_cases hbig : 200 < n
  · have HW := Lib.hid (show v = true by rw [← HV.out]; unfold vastB; rw [Bool.or_eq_true]; left; simp; omega)
    have h1 : (200 : Int) < (n : Int) := by omega
    go_enter Tryz.func5, Tryz.ntmps5
    go_wp2_with fail
    go_ret
    exact ⟨ret_bool HW.out.symm, rfl⟩
  have h1 : (n : Int) ≤ 200 := by omega
  go_enter Tryz.func5, Tryz.ntmps5
  go_wp2_with fail
  go_loopw [3] (fun i wr => ∃ k : Nat, k ≤ n ∧ i = .int .i64 k ∧ (∀ (j : Nat) (x : Nd), j < k → l[j]? = some x → x.words.length ≤ 100) ∧ wr = w) (fun i _ => n - (intOf i).toNat)
  case atStart => exact ⟨0, by omega, rfl, fun j x hj => by omega, rfl⟩
  case round =>
    obtain ⟨k, hk, rfl, hall, rfl⟩ := hrel
    have HL := Lib.hid hall
    clear hall
    by_cases hlt : k < n
    · obtain ⟨b1, o1, m1, x1, rfl, hb1, e1, r1, t1⟩ := HA.out.at_ hlt
      have hk2 : (k : Int) < (n : Int) := by omega
      have c16 := r1 16 _ rfl
      have hw := t1.2.1
      have E1 := Lib.hid e1
      clear e1 r1 t1
      by_cases hv2 : 100 < m1.n
      · have h2 : (100 : Int) < (m1.n : Int) := by omega
        have HW := Lib.hid (show v = true by
          rw [← HV.out]; unfold vastB; rw [Bool.or_eq_true]; right
          rw [List.any_eq_true]
          exact ⟨x1, List.mem_of_getElem? E1.out, by simp; omega⟩)
        go_wp2_with fail
        go_ret
        exact ⟨ret_bool HW.out.symm, rfl⟩
      · have h2 : (m1.n : Int) ≤ 100 := by omega
        go_wp2_with fail
        go_roundw
        case rel => exact ⟨k + 1, by omega, by go_num, fun j x hj hx => by
          by_cases e : j = k
          · subst e
            have := E1.out
            rw [hx] at this
            injection this with this
            subst this
            omega
          · exact HL.out j x (by omega) hx, by first | rfl | trivial⟩
        case measure => simp [intOf]; omega
    · have hk2 : (n : Int) ≤ (k : Int) := by omega
      have HW := Lib.hid (show v = false by rw [← HV.out]; exact vastB_of (by omega) (fun j x hj => HL.out j x (by omega)))
      go_wp2_with fail
      go_ret
      exact ⟨ret_bool HW.out.symm, rfl⟩
end Go.Proofs.YtechccoongilcaaGreatDoor
/- The walk of the law CanonBack. -/
namespace Go.Proofs.YtechccoongilcaaGreatDoor
open Go.RowKit
set_option linter.unusedVariables false
set_option linter.unusedSimpArgs false
theorem psame_to {a b : List Nd} {v : Bool} (hv : ndsB a b = v) {A B : Option Addr} {n m ca cb : Nat} (w : World) (ha : Sees w A n a) (hb : Sees w B m b) : Calls Tryz.prog 13 #[.slice A n ca, .slice B m cb] w fun e w' => e = .returned (.bool v) ∧ Below w.heap.size w w' := by
  subst hv; exact psame_any a b A B n m ca cb w ha hb
theorem nds_same (a : List Nd) : ndsB a a = true := by unfold ndsB; simp
theorem nds_ne {a b : List Nd} (h : a ≠ b) : ndsB a b = false := by unfold ndsB; simp [h]
theorem can_size7 {l : List Nd} (hd : IsDoc l) (hn : l.length ≤ 200) (hw : ∀ y ∈ l, y.words.length ≤ 100) : (canS l).size ≤ 590200 := by
  have h1 := can_size hd.2 hd.1 (b := [.b 10]) (by simp) fine_lf
  have h2 := wts_le hw
  have h3 : l.length * (27 + 2 * 100) ≤ 200 * 227 := Nat.mul_le_mul_right _ hn
  have h4 : (canS l).size = (textOf (canP [.b 10] l)).length := bytesOf_size _
  omega
theorem strs_ne {s t : ByteArray} (h : s ≠ t) : (s.toList == t.toList) = false := by
  rw [beq_eq_false_iff_ne]
  intro e
  rw [Go.ByteArray.toList_eq, Go.ByteArray.toList_eq] at e
  exact h (ByteArray.ext (Array.toList_inj.1 e))
set_option maxHeartbeats 4000000 in
set_option maxRecDepth 100000 in
theorem canonback_law (A : Option Addr) (n c : Nat) (a : List Nd) (B : Option Addr) (m d : Nat) (b : List Nd) (w : World) (hT : TabsB w) (hla : Sees w A n a) (hlb : Sees w B m b) : Calls Tryz.prog 4 #[.slice A n c, .slice B m d] w fun e w' => e = .returned (.bool true) ∧ Below w.heap.size w w' := by
  have HT := Lib.hid hT
  have HA := Lib.hid hla
  have HB := Lib.hid hlb
  clear hT hla hlb
  rcases hva : vastB a with _ | _
  rotate_left
  · have HV := Lib.hid hva
    clear hva
    go_enter Tryz.func4, Tryz.ntmps4
    go_wp2_with fail
    refine (vast7_to HV.out HA.out).mono ?_
    rintro e w1 ⟨rfl, rfl⟩
    go_wp2_with fail
    refine (cawake_any _ HT.out).mono ?_
    rintro e w1 ⟨rfl, hb⟩
    have HX := Lib.hid hb
    clear hb
    go_wp2_with fail
    go_ret
    exact ⟨rfl, HX.out⟩
  rcases hvb : vastB b with _ | _
  rotate_left
  · have HV := Lib.hid hva
    have HV2 := Lib.hid hvb
    clear hva hvb
    go_enter Tryz.func4, Tryz.ntmps4
    go_wp2_with fail
    refine (vast7_to HV.out HA.out).mono ?_
    rintro e w1 ⟨rfl, rfl⟩
    go_wp2_with fail
    refine (vast7_to HV2.out HB.out).mono ?_
    rintro e w1 ⟨rfl, rfl⟩
    go_wp2_with fail
    refine (cawake_any _ HT.out).mono ?_
    rintro e w1 ⟨rfl, hb⟩
    have HX := Lib.hid hb
    clear hb
    go_wp2_with fail
    go_ret
    exact ⟨rfl, HX.out⟩
  obtain ⟨hna, hwa⟩ := vastB_no hva
  obtain ⟨hnb, hwb⟩ := vastB_no hvb
  have hlla := HA.out.len
  have hllb := HB.out.len
  have HFA := Lib.hid (show Few a w A n from ⟨HA.out, by omega, fun y hy => by have := hwa y hy; omega⟩)
  have HFB := Lib.hid (show Few b w B m from ⟨HB.out, by omega, fun y hy => by have := hwb y hy; omega⟩)
  have HV := Lib.hid hva
  have HV2 := Lib.hid hvb
  have hn2 : n ≤ 200 := by omega
  have hm2 : m ≤ 200 := by omega
  have HZ := Lib.hid (fun hd : IsDoc a => can_size7 hd hna hwa)
  clear hva hvb hwa hwb hlla hllb hna hnb
  obtain ⟨⟨t, f⟩, hwb⟩ : ∃ r, wrA b = r := ⟨_, rfl⟩
  have HRB := Lib.hid hwb
  obtain ⟨vb, hvb⟩ : ∃ v, docB b = v := ⟨_, rfl⟩
  have HVB := Lib.hid hvb
  by_cases hda : IsDoc a
  rotate_left
  · have HRA := Lib.hid (wrA_no hda)
    have HVA := Lib.hid (show docB a = false by rcases hq : docB a with _ | _; rfl; exact absurd ((docB_iff a).1 hq) hda)
    have hfv : ((f == 0) = true ∧ vb = true) ∨ ((f == 0) = false ∧ vb = false) := by
      by_cases hdb : IsDoc b
      · left; rw [wrA_doc hdb] at hwb; injection hwb with _ h; rw [← h, ← hvb]; exact ⟨rfl, (docB_iff b).2 hdb⟩
      · right; rw [wrA_no hdb] at hwb; injection hwb with _ h; rw [← h, ← hvb]; exact ⟨rfl, by rcases hq : docB b with _ | _; rfl; exact absurd ((docB_iff b).1 hq) hdb⟩
    clear hwb hvb hda
    rcases hfv with ⟨hf, rfl⟩ | ⟨hf, rfl⟩
    all_goals
      go_enter Tryz.func4, Tryz.ntmps4
      go_wp2_with fail
      refine (vast7_to HV.out HA.out).mono ?_
      rintro e w1 ⟨rfl, rfl⟩
      go_wp2_with fail
      refine (vast7_to HV2.out HB.out).mono ?_
      rintro e w1 ⟨rfl, rfl⟩
      go_wp2_with fail
      refine (cwrite_to HRA.out HFA.out HT.out).mono ?_
      rintro e w2 ⟨rfl, hb⟩
      have HB2 := Lib.hid hb
      clear hb
      go_wp2_with fail
      refine (cwrite_to HRB.out (HFB.out.below HB2.out) (HT.out.below HB2.out)).mono ?_
      rintro e w3 ⟨rfl, hb⟩
      have HB3 := Lib.hid (below_then HB2.out hb)
      clear hb
      go_wp2_with fail
      refine (pIs_to HVA.out ⟨HA.out.below HB3.out, by omega⟩).mono ?_
      rintro e w4 ⟨rfl, hb⟩
      have HB4 := Lib.hid (below_then HB3.out hb)
      clear hb
      go_wp2_with fail
      refine (pIs_to HVB.out ⟨HB.out.below HB4.out, by omega⟩).mono ?_
      rintro e w5 ⟨rfl, hb⟩
      have HB5 := Lib.hid (below_then HB4.out hb)
      clear hb
      go_wp2_with fail
      refine (cawake_any _ (HT.out.below HB5.out)).mono ?_
      rintro e w6 ⟨rfl, hb⟩
      have HB6 := Lib.hid (below_then HB5.out hb)
      clear hb
      go_wp2_with fail
      go_ret
      exact ⟨rfl, HB6.out⟩
  have HVA := Lib.hid ((docB_iff a).2 hda)
  have HRD := Lib.hid (canS_back hda)
  have hsz := HZ.out hda
  obtain ⟨s, hs⟩ : ∃ s, canS a = s := ⟨_, rfl⟩
  have HRA := Lib.hid (show wrA a = (s, 0) by rw [wrA_doc hda, hs])
  rw [hs] at hsz HRD
  have hcase : (∃ q, f = 0 ∧ vb = true ∧ ndsB a b = q ∧ ((q = true ∧ s = t) ∨ (q = false ∧ s ≠ t))) ∨ ((f == 0) = false ∧ (f != 0) = true ∧ vb = false) := by
    by_cases hdb : IsDoc b
    · left
      rw [wrA_doc hdb] at hwb
      injection hwb with h1 h2
      refine ⟨_, h2.symm, by rw [← hvb]; exact (docB_iff b).2 hdb, rfl, ?_⟩
      rw [← hs, ← h1]
      by_cases hab : a = b
      · left; exact ⟨by rw [hab]; exact nds_same b, by rw [hab]⟩
      · right; exact ⟨nds_ne hab, fun e => hab ((canS_inj hda hdb).1 e)⟩
    · right
      rw [wrA_no hdb] at hwb
      injection hwb with _ h
      rw [← h, ← hvb]
      exact ⟨rfl, rfl, by rcases hq : docB b with _ | _; rfl; exact absurd ((docB_iff b).1 hq) hdb⟩
  clear hwb hvb hs hda
  rcases hcase with ⟨q, rfl, rfl, hq, ⟨rfl, rfl⟩ | ⟨rfl, hst⟩⟩ | ⟨hf, hf', rfl⟩
  · have HQ := Lib.hid hq
    clear hq
    go_enter Tryz.func4, Tryz.ntmps4
    go_wp2_with fail
    refine (vast7_to HV.out HA.out).mono ?_
    rintro e w1 ⟨rfl, rfl⟩
    go_wp2_with fail
    refine (vast7_to HV2.out HB.out).mono ?_
    rintro e w1 ⟨rfl, rfl⟩
    go_wp2_with fail
    refine (cwrite_to HRA.out HFA.out HT.out).mono ?_
    rintro e w2 ⟨rfl, hb⟩
    have HB2 := Lib.hid hb
    clear hb
    go_wp2_with fail
    refine (cwrite_to HRB.out (HFB.out.below HB2.out) (HT.out.below HB2.out)).mono ?_
    rintro e w3 ⟨rfl, hb⟩
    have HB3 := Lib.hid (below_then HB2.out hb)
    clear hb
    go_wp2_with fail
    refine (pIs_to HVA.out ⟨HA.out.below HB3.out, by omega⟩).mono ?_
    rintro e w4 ⟨rfl, hb⟩
    have HB4 := Lib.hid (below_then HB3.out hb)
    clear hb
    go_wp2_with fail
    refine (pIs_to HVB.out ⟨HB.out.below HB4.out, by omega⟩).mono ?_
    rintro e w5 ⟨rfl, hb⟩
    have HB5 := Lib.hid (below_then HB4.out hb)
    clear hb
    go_wp2_with fail
    refine (readof_any s _ (HT.out.below HB5.out).1 (by omega)).mono ?_
    intro e w6 hp
    obtain ⟨A6, n6, c6, rfl, hN, hb⟩ := of_ok HRD.out hp
    have HB6 := Lib.hid (below_then HB5.out hb)
    have HN6 := Lib.hid hN.sees
    clear hp hb hN
    go_wp2_with fail
    refine (psame_to (nds_same a) _ HN6.out (HA.out.below HB6.out)).mono ?_
    rintro e w7 ⟨rfl, hb⟩
    have HB7 := Lib.hid (below_then HB6.out hb)
    clear hb
    go_wp2_with fail
    refine (psame_to HQ.out _ (HA.out.below HB7.out) (HB.out.below HB7.out)).mono ?_
    rintro e w8 ⟨rfl, hb⟩
    have HB8 := Lib.hid (below_then HB7.out hb)
    clear hb
    go_wp2_with fail
    refine (cawake_any _ (HT.out.below HB8.out)).mono ?_
    rintro e w9 ⟨rfl, hb⟩
    have HB9 := Lib.hid (below_then HB8.out hb)
    clear hb
    go_wp2_with fail
    go_ret
    exact ⟨rfl, HB9.out⟩
  · have HQ := Lib.hid hq
    have hst1 := strs_ne hst
    clear hq
    go_enter Tryz.func4, Tryz.ntmps4
    go_wp2_with fail
    refine (vast7_to HV.out HA.out).mono ?_
    rintro e w1 ⟨rfl, rfl⟩
    go_wp2_with fail
    refine (vast7_to HV2.out HB.out).mono ?_
    rintro e w1 ⟨rfl, rfl⟩
    go_wp2_with fail
    refine (cwrite_to HRA.out HFA.out HT.out).mono ?_
    rintro e w2 ⟨rfl, hb⟩
    have HB2 := Lib.hid hb
    clear hb
    go_wp2_with fail
    refine (cwrite_to HRB.out (HFB.out.below HB2.out) (HT.out.below HB2.out)).mono ?_
    rintro e w3 ⟨rfl, hb⟩
    have HB3 := Lib.hid (below_then HB2.out hb)
    clear hb
    go_wp2_with fail
    refine (pIs_to HVA.out ⟨HA.out.below HB3.out, by omega⟩).mono ?_
    rintro e w4 ⟨rfl, hb⟩
    have HB4 := Lib.hid (below_then HB3.out hb)
    clear hb
    go_wp2_with fail
    refine (pIs_to HVB.out ⟨HB.out.below HB4.out, by omega⟩).mono ?_
    rintro e w5 ⟨rfl, hb⟩
    have HB5 := Lib.hid (below_then HB4.out hb)
    clear hb
    go_wp2_with fail
    refine (readof_any s _ (HT.out.below HB5.out).1 (by omega)).mono ?_
    intro e w6 hp
    obtain ⟨A6, n6, c6, rfl, hN, hb⟩ := of_ok HRD.out hp
    have HB6 := Lib.hid (below_then HB5.out hb)
    have HN6 := Lib.hid hN.sees
    clear hp hb hN
    go_wp2_with fail
    refine (psame_to (nds_same a) _ HN6.out (HA.out.below HB6.out)).mono ?_
    rintro e w7 ⟨rfl, hb⟩
    have HB7 := Lib.hid (below_then HB6.out hb)
    clear hb
    go_wp2_with fail
    refine (psame_to HQ.out _ (HA.out.below HB7.out) (HB.out.below HB7.out)).mono ?_
    rintro e w8 ⟨rfl, hb⟩
    have HB8 := Lib.hid (below_then HB7.out hb)
    clear hb
    go_wp2_with fail
    refine (cawake_any _ (HT.out.below HB8.out)).mono ?_
    rintro e w9 ⟨rfl, hb⟩
    have HB9 := Lib.hid (below_then HB8.out hb)
    clear hb
    go_wp2_with fail
    go_ret
    exact ⟨rfl, HB9.out⟩
  · skip
    go_enter Tryz.func4, Tryz.ntmps4
    go_wp2_with fail
    refine (vast7_to HV.out HA.out).mono ?_
    rintro e w1 ⟨rfl, rfl⟩
    go_wp2_with fail
    refine (vast7_to HV2.out HB.out).mono ?_
    rintro e w1 ⟨rfl, rfl⟩
    go_wp2_with fail
    refine (cwrite_to HRA.out HFA.out HT.out).mono ?_
    rintro e w2 ⟨rfl, hb⟩
    have HB2 := Lib.hid hb
    clear hb
    go_wp2_with fail
    refine (cwrite_to HRB.out (HFB.out.below HB2.out) (HT.out.below HB2.out)).mono ?_
    rintro e w3 ⟨rfl, hb⟩
    have HB3 := Lib.hid (below_then HB2.out hb)
    clear hb
    go_wp2_with fail
    refine (pIs_to HVA.out ⟨HA.out.below HB3.out, by omega⟩).mono ?_
    rintro e w4 ⟨rfl, hb⟩
    have HB4 := Lib.hid (below_then HB3.out hb)
    clear hb
    go_wp2_with fail
    refine (pIs_to HVB.out ⟨HB.out.below HB4.out, by omega⟩).mono ?_
    rintro e w5 ⟨rfl, hb⟩
    have HB5 := Lib.hid (below_then HB4.out hb)
    clear hb
    go_wp2_with fail
    refine (readof_any s _ (HT.out.below HB5.out).1 (by omega)).mono ?_
    intro e w6 hp
    obtain ⟨A6, n6, c6, rfl, hN, hb⟩ := of_ok HRD.out hp
    have HB6 := Lib.hid (below_then HB5.out hb)
    have HN6 := Lib.hid hN.sees
    clear hp hb hN
    go_wp2_with fail
    refine (psame_to (nds_same a) _ HN6.out (HA.out.below HB6.out)).mono ?_
    rintro e w7 ⟨rfl, hb⟩
    have HB7 := Lib.hid (below_then HB6.out hb)
    clear hb
    have HB8 := HB7
    go_wp2_with fail
    refine (cawake_any _ (HT.out.below HB8.out)).mono ?_
    rintro e w9 ⟨rfl, hb⟩
    have HB9 := Lib.hid (below_then HB8.out hb)
    clear hb
    go_wp2_with fail
    go_ret
    exact ⟨rfl, HB9.out⟩
end Go.Proofs.YtechccoongilcaaGreatDoor
/- The walk of the law CanonWrites. -/
namespace Go.Proofs.YtechccoongilcaaGreatDoor
open Go.RowKit
set_option linter.unusedVariables false
set_option linter.unusedSimpArgs false
set_option maxHeartbeats 4000000 in
set_option maxRecDepth 100000 in
theorem canonwrites_law (A : Option Addr) (n c : Nat) (l : List Nd) (w : World) (hT : TabsB w) (hl : Sees w A n l) : Calls Tryz.prog 3 #[.slice A n c] w fun e w' => e = .returned (.bool true) ∧ Below w.heap.size w w' := by
  have HT := Lib.hid hT
  have HA := Lib.hid hl
  clear hT hl
  rcases hv : vastB l with _ | _
  rotate_left
  · have HV := Lib.hid hv
    clear hv
    go_enter Tryz.func3, Tryz.ntmps3
    go_wp2_with fail
    refine (vast7_to HV.out HA.out).mono ?_
    rintro e w1 ⟨rfl, rfl⟩
    go_wp2_with fail
    refine (cawake_any _ HT.out).mono ?_
    rintro e w1 ⟨rfl, hb⟩
    have HB := Lib.hid hb
    clear hb
    go_wp2_with fail
    go_ret
    exact ⟨rfl, HB.out⟩
  · obtain ⟨hn, hw⟩ := vastB_no hv
    have hla := HA.out.len
    have HV := Lib.hid hv
    have hn2 : n ≤ 200 := by omega
    have HW := Lib.hid (show ∀ y ∈ l, y.words.length ≤ 100000 from fun y hy => by have := hw y hy; omega)
    obtain ⟨⟨s, f⟩, ha⟩ : ∃ a, wrA l = a := ⟨_, rfl⟩
    have HR := Lib.hid ha
    clear hv hn hw hla ha
    go_enter Tryz.func3, Tryz.ntmps3
    go_wp2_with fail
    refine (vast7_to HV.out HA.out).mono ?_
    rintro e w1 ⟨rfl, rfl⟩
    go_wp2_with fail
    refine (rown_any l A n c _ HA.out (by omega) (fun y hy => by have := HW.out y hy; omega)).mono ?_
    rintro e w1 ⟨A2, c2, rfl, hN, hb⟩
    have HN := Lib.hid hN.sees
    have HB := Lib.hid hb
    clear hN hb
    go_wp2_with fail
    refine (cwrite_to HR.out ⟨HN.out, by omega, HW.out⟩ (HT.out.below HB.out)).mono ?_
    rintro e w2 ⟨rfl, hb⟩
    have HN2 := Lib.hid (HN.out.below hb)
    have HB2 := Lib.hid (below_then HB.out hb)
    clear hb
    go_wp2_with fail
    refine (vwrite_to HR.out ⟨HA.out.below HB2.out, by omega, HW.out⟩).mono ?_
    rintro e w3 ⟨rfl, hb⟩
    have HN3 := Lib.hid (HN2.out.below hb)
    have HB3 := Lib.hid (below_then HB2.out hb)
    clear hb
    go_wp2_with fail
    refine (rsame_to (ndsB_self l) _ HN3.out (HA.out.below HB3.out)).mono ?_
    rintro e w4 ⟨rfl, hb⟩
    have HB4 := Lib.hid (below_then HB3.out hb)
    clear hb
    go_wp2_with fail
    refine (cawake_any _ (HT.out.below HB4.out)).mono ?_
    rintro e w5 ⟨rfl, hb⟩
    have HB5 := Lib.hid (below_then HB4.out hb)
    clear hb
    go_wp2_with fail
    go_ret
    exact ⟨rfl, HB5.out⟩
end Go.Proofs.YtechccoongilcaaGreatDoor
