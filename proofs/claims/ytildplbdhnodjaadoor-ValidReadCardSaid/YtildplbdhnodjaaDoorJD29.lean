import Derived.Test.YtildplbdhnodjaaDoorJD27
import Derived.Test.YtildplbdhnodjaaDoorJD13
import Derived.Test.YtildplbdhnodjaaDoorJD02
import Derived.Handy
import Derived.Test.YtildplbdhnodjaaDoorJD06
/- The program's package read: Of and Is. -/
namespace Go.Proofs.YtildplbdhnodjaaDoor
open Go.RowKit
set_option linter.unusedVariables false
set_option linter.unusedSimpArgs false
theorem fin_place {s : ByteArray} {toks : List Tok} {q i : Nat} (h : lexB s = (some toks, q)) (hf : Fin toks (none, i)) : ∃ k : Nat, placeB toks s.size i = (k : Int) ∧ Read toks s.size (none, k) := by
  have hr := hf.read (len := s.size)
  have hp : placeB toks s.size i = ((placeB toks s.size i).toNat : Int) := by
    unfold placeB
    rcases ht : toks[i]? with _ | t
    · simp
    · obtain ⟨p, e, hp, _⟩ := tok_stands h ht
      simp only
      omega
  exact ⟨_, hp, hr⟩
/-- what Of answers: the row's length is within its capacity. -/
def OfPostC (w : World) (s : ByteArray) (e : Ending) (w' : World) : Prop :=
  (∃ x A n c, ReadB s (some x, 0) ∧ e = .returned (.tuple #[.slice A n c, .int .i64 0, .int .i64 0]) ∧ Nds w.heap.size w' A n x ∧ Below w.heap.size w w' ∧ n ≤ c) ∨
  (∃ k : Nat, ReadB s (none, k) ∧ e = .returned (.tuple #[.slice none 0 0, .int .i64 (k : Int), .int .i64 1]) ∧ Below w.heap.size w w')
set_option maxHeartbeats 4000000 in
theorem readof_cap (s : ByteArray) (w : World) (hT : Tabs w) (hs : s.size ≤ 100000) : Calls Tryd.prog 5 #[.string s] w (OfPostC w s) := by
  have HT := Lib.hid hT
  clear hT
  go_enter Tryd.func5, Tryd.ntmps5
  go_wp2_with fail
  refine (lexof_any s w HT.out hs).mono ?_
  rintro e w1 (⟨toks, A, n, c, hl, rfl, hR, ⟨hns, hnc, hA⟩, hb⟩ | ⟨k, hl, rfl, hk, hb⟩)
  · have HL := Lib.hid hl
    have HB := Lib.hid hb
    have hlen := hR.1
    have HNR := Lib.hid (newreader_any toks A n c (s.size : Int) w1 hR hnc hA)
    clear hl hR hA hb
    go_wp2_with fail
    refine HNR.out.mono ?_
    rintro e w2 ⟨rb, M, rfl, hrd, hlt, hb2⟩
    have HB2 := Lib.hid (HB.out.trans (hb2.mono HB.out.size))
    have HDC := Lib.hid (document_any hlt hrd (by omega))
    have hs2 := hb2.size
    have hs1 := HB.out.size
    clear hrd hlt hb2 HNR
    go_wp2_with fail
    refine HDC.out.mono ?_
    rintro e w3 ⟨v, i, b, A3, n3, c3, Ao, mo, co, s3, rfl, hd, hy, hn⟩
    have HB3 := Lib.hid (HB2.out.trans (hd.bar.below (B := w.heap.size) (by omega) (by omega)))
    have c3' := hd.rd.cells.2.2.1
    cases v with
    | true =>
      obtain ⟨x, hp, hx, hcap⟩ := hy rfl
      have HX := Lib.hid (hx.up (base' := w.heap.size) (by omega))
      have HP := Lib.hid (show ReadB s (some x, 0) from .inr ⟨toks, 0, HL.out, .ok hp⟩)
      clear hd hy hn hp hx HDC
      go_wp2_with fail
      go_returns
      exact .inl ⟨x, A3, n3, c3, HP.out, rfl, HX.out, HB3.out, hcap⟩
    | false =>
      obtain ⟨k, hk, hr⟩ := fin_place HL.out (hn rfl)
      have HP := Lib.hid (show ReadB s (none, k) from .inr ⟨toks, 0, HL.out, hr⟩)
      have HK := Lib.hid hk
      have HAT := Lib.hid (pat_to (len := s.size) rfl hd.rd)
      clear hd hy hn hr hk HDC
      go_wp2_with fail
      refine HAT.out.mono ?_
      rintro e w4 ⟨rfl, rfl⟩
      rw [HK.out]
      go_wp2_with fail
      go_returns
      exact .inr ⟨k, HP.out, rfl, HB3.out⟩
  · have HP := Lib.hid (show ReadB s (none, k) from .inl ⟨k, hl, rfl⟩)
    have HB := Lib.hid hb
    clear hl hb
    go_wp2_with fail
    go_returns
    exact .inr ⟨k, HP.out, rfl, HB.out⟩
theorem readof_any (s : ByteArray) (w : World) (hT : Tabs w) (hs : s.size ≤ 100000) : Calls Tryd.prog 5 #[.string s] w (OfPost w s) :=
  (readof_cap s w hT hs).mono fun e w' h => h.imp (fun ⟨x, A, n, c, h1, h2, h3, h4, _⟩ => ⟨x, A, n, c, h1, h2, h3, h4⟩) id
end Go.Proofs.YtildplbdhnodjaaDoor
/- Two documents, one behind the other; a ] behind one; a script cut where it is refused. Nothing of the program's functions stands here. -/
namespace Go.Proofs.YtildplbdhnodjaaDoor
open Go
set_option linter.unusedVariables false
set_option linter.unusedSimpArgs false
theorem ReadB.doc {s : ByteArray} {x : List Nd} (h : ReadB s (some x, 0)) : ∃ o q, lexB s = (some o, q) ∧ Parse o true 0 [] (.ok x o.length) := by
  rcases h with ⟨k, _, h2⟩ | ⟨o, q, h1, h2⟩
  · cases h2
  · generalize hz : ((some x, 0) : Option (List Nd) × Nat) = z at h2
    cases h2 with
    | ok h3 => injection hz with hz _; injection hz with hz; subst hz; exact ⟨o, q, h1, h3⟩
    | rest _ _ => cases hz
    | bad _ _ => cases hz
    | short _ _ => cases hz
section
variable {a b t : ByteArray} (h : Parted a b t)
include h
theorem both_ok {x y : List Nd} (ha : ReadB a (some x, 0)) (hb : ReadB b (some y, 0)) : ReadB t (some (x ++ y), 0) := by
  obtain ⟨o, q, h1, h2⟩ := ha.doc
  obtain ⟨l, q', h3, h4⟩ := hb.doc
  have ht := h.lexB_both h1
  rw [h3] at ht
  refine .inr ⟨_, _, ht, .ok ?_⟩
  have := h2.both (A := a.size + 1) h4
  rw [List.length_append, List.length_map]
  exact this
theorem both_bad {x : List Nd} {k : Nat} (ha : ReadB a (some x, 0)) (hb : ReadB b (none, k)) : ∃ k', ReadB t (none, k') := by
  obtain ⟨o, q, h1, h2⟩ := ha.doc
  have ht := h.lexB_both h1
  rcases hb with ⟨k', h3, _⟩ | ⟨l, q', h3, h4⟩
  · rw [h3] at ht
    exact ⟨_, .inl ⟨_, ht, rfl⟩⟩
  · rw [h3] at ht
    have hat : ∀ (p : Nat) (tk : Tok), l[p]? = some tk → (o ++ l.map (shiftT (a.size + 1)))[o.length + p]? = some (shiftT (a.size + 1) tk) := fun p tk hp => by
      rw [List.getElem?_append_right (by omega), Nat.add_sub_cancel_left, List.getElem?_map, hp]; rfl
    generalize hz : ((none, k) : Option (List Nd) × Nat) = z at h4
    cases h4 with
    | ok _ => cases hz
    | rest h5 h6 => exact ⟨_, .inr ⟨_, _, ht, .rest (h2.both (A := a.size + 1) h5) (hat _ _ h6)⟩⟩
    | bad h5 h6 => exact ⟨_, .inr ⟨_, _, ht, .bad (h2.both (A := a.size + 1) h5) (hat _ _ h6)⟩⟩
    | short h5 h6 => exact ⟨_, .inr ⟨_, _, ht, .short (h2.both (A := a.size + 1) h5) (by rw [List.length_append, List.length_map]; omega)⟩⟩
end
theorem bracket_bad {a t : ByteArray} (h : Parted a ⟨#[93]⟩ t) {x : List Nd} (ha : ReadB a (some x, 0)) : ReadB t (none, a.size + 1) := by
  obtain ⟨o, q, h1, h2⟩ := ha.doc
  have ht := h.lexB_both h1
  rw [show lexB ⟨#[93]⟩ = (some [⟨1, 93, 0, 0⟩], 0) by decide +kernel] at ht
  have hp : Parse [⟨1, 93, 0, 0⟩] true 0 [] (.ok [] 0) := .stop (by decide)
  have hb := h2.both (A := a.size + 1) hp
  have hx : (o ++ [(⟨1, 93, 0, 0⟩ : Tok)].map (shiftT (a.size + 1)))[o.length + 0]? = some ⟨1, 93, 0, 0 + ((a.size + 1 : Nat) : Int)⟩ := by
    rw [List.getElem?_append_right (by omega), Nat.add_sub_cancel_left]; rfl
  have hr := Read.rest (len := t.size) hb hx
  have he : (0 + ((a.size + 1 : Nat) : Int)).toNat = a.size + 1 := by omega
  simp only [he] at hr
  exact .inr ⟨_, _, ht, hr⟩
/-- refused at k: k lies within; cut there, it is a document or refused there, if its tokens may be. -/
theorem ReadB.place {s : ByteArray} {k : Nat} (h : ReadB s (none, k)) : k ≤ s.size ∨ ∃ p, lexB s = (none, p) ∧ k = p := by
  rcases h with ⟨p, h1, h2⟩ | ⟨o, q, h1, h2⟩
  · injection h2 with _ h2; exact .inr ⟨p, h1, h2⟩
  · exact .inl (read_place h1 h2)
theorem ReadB.cut {s a : ByteArray} {k : Nat} {o : List Tok} {q : Nat} (h : ReadB s (none, k)) (ho : lexB s = (some o, q)) (hh : Headed a s) (ha : a.size = k) : ∃ r, ReadB a r ∧ (r.1.isSome = true ∨ r = (none, k)) := by
  rcases h with ⟨p, h1, _⟩ | ⟨o', q', h1, h2⟩
  · rw [ho] at h1; injection h1 with h1 _; cases h1
  · obtain ⟨o2, q2, r, h3, h4, h5⟩ := read_cut h1 h2 hh ha
    exact ⟨r, .inr ⟨o2, q2, h3, h4⟩, h5⟩
theorem doc_len {s : ByteArray} {x : List Nd} (h : ReadB s (some x, 0)) : x.length ≤ s.size := by
  obtain ⟨o, q, h1, h2⟩ := h.doc
  have h3 := h2.len _ _ rfl
  have h4 := lexF_len _ _ _ _ _ _ (by omega) h1
  simp only [List.length_nil, Nat.zero_add, Nat.add_zero] at h3 h4
  omega
end Go.Proofs.YtildplbdhnodjaaDoor
