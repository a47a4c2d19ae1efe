import Derived.Test.YtdjnaejblgheoaaGreatJO01
/- All that happens: how high it is, how much it makes. Nothing of the program stands here. -/
namespace Go.Proofs.YtdjnaejblgheoaaGreat
open Go
set_option linter.unusedVariables false
set_option linter.unusedSimpArgs false
/-- rows that end at e: no node from i on goes farther. -/
def Clo (L : List Nd) (i e : Nat) : Prop := e ≤ L.length ∧ ∀ (k : Nat) (x : Nd), i ≤ k → k < e → L[k]? = some x → nxt k x ≤ e
theorem Clo.all {L : List Nd} (hn : Nested L) : Clo L 0 L.length := ⟨Nat.le_refl _, fun k x _ _ hx => (nxt_of hn hx).2⟩
theorem Clo.inner {L : List Nd} (hn : Nested L) {i : Nat} {x : Nd} (hx : L[i]? = some x) (hk : x.kind = 1) : Clo L (i + 1) (nxt i x) :=
  ⟨(nxt_of hn hx).2, fun k y h1 h2 hy => nxt_in hn hy hx hk (by omega) h2⟩
theorem Clo.next {L : List Nd} {i e : Nat} {x : Nd} (h : Clo L i e) (hx : L[i]? = some x) : Clo L (nxt i x) e := ⟨h.1, fun k y h1 h2 hy => h.2 k y (by have := nxt_lt i x; omega) h2 hy⟩
theorem Clo.at_ {L : List Nd} {i e : Nat} (h : Clo L i e) (hi : i < e) : ∃ x, L[i]? = some x ∧ nxt i x ≤ e := by
  have hlt : i < L.length := Nat.lt_of_lt_of_le hi h.1
  exact ⟨L[i], List.getElem?_eq_getElem hlt, h.2 i L[i] (Nat.le_refl _) hi (List.getElem?_eq_getElem hlt)⟩
theorem ev_ind {L : List Nd} (hn : Nested L) {P : Nat → Nat → Prop} (h0 : ∀ i e, e ≤ i → P i e)
    (h1 : ∀ (i e : Nat) (x : Nd), i < e → L[i]? = some x → nxt i x ≤ e → (x.kind = 1 → P (i + 1) (nxt i x)) → P (nxt i x) e → P i e) : ∀ (d i e : Nat), e ≤ i + d → Clo L i e → P i e
  | 0, i, e, hd, _ => h0 i e (by omega)
  | d + 1, i, e, hd, hc => by
    by_cases hi : i < e
    · obtain ⟨x, hx, hle⟩ := hc.at_ hi
      have hl := nxt_lt i x
      exact h1 i e x hi hx hle (fun hk => ev_ind hn h0 h1 d (i + 1) (nxt i x) (by omega) (Clo.inner hn hx hk)) (ev_ind hn h0 h1 d (nxt i x) e (by omega) (hc.next hx))
    · exact h0 i e (by omega)
/-- how high all that happens is. -/
def sumE (L : List Nd) (es : List Ev) : Int := (es.map (evH L)).sum
theorem sumE_nil (L : List Nd) : sumE L [] = 0 := rfl
theorem sumE_cons (L : List Nd) (e : Ev) (es : List Ev) : sumE L (e :: es) = evH L e + sumE L es := by unfold sumE; rw [List.map_cons, List.sum_cons]
theorem sumE_append (L : List Nd) (a b : List Ev) : sumE L (a ++ b) = sumE L a + sumE L b := by unfold sumE; rw [List.map_append, List.sum_append]
theorem evH_pos {L : List Nd} (hf : ∀ y ∈ L, y.fits) : ∀ e : Ev, 0 ≤ evH L e
  | .begin_ i => by
    cases hx : L[i]? with
    | none => show 0 ≤ (match L[i]? with | some x => x.sty.top + x.sty.padTop | none => 0); rw [hx]; exact Int.le_refl _
    | some x =>
      rw [evH_begin hx]
      have := sty_all_pos (hf x (List.mem_of_getElem? hx))
      omega
  | .end_ i => by
    cases hx : L[i]? with
    | none => show 0 ≤ (match L[i]? with | some x => x.sty.bottom + x.sty.padBottom | none => 0); rw [hx]; exact Int.le_refl _
    | some x =>
      rw [evH_end hx]
      have := sty_all_pos (hf x (List.mem_of_getElem? hx))
      omega
  | .leaf i => by
    cases hx : L[i]? with
    | none => show 0 ≤ (match L[i]? with | some x => leafH x | none => 0); rw [hx]; exact Int.le_refl _
    | some x =>
      rw [evH_leaf hx]
      unfold leafH
      rcases hf x (List.mem_of_getElem? hx) with ⟨hk, _, h1, _, _, _, h2, _⟩ | ⟨hk, _, h1, _⟩ | ⟨hk, _, _, _, _, _, h1, _⟩ | ⟨hk, _, _, _, _, _, h1, _⟩
      · rw [if_neg (by omega)]; omega
      · rw [if_pos hk]; have := h1.1; exact Int.mul_nonneg (by omega) (by omega)
      · rw [if_neg (by omega)]; have := h1.1; omega
      · rw [if_neg (by omega)]; have := h1.1; omega
theorem sumE_pos {L : List Nd} (hf : ∀ y ∈ L, y.fits) : ∀ es : List Ev, 0 ≤ sumE L es
  | [] => Int.le_refl _
  | e :: es => by rw [sumE_cons]; have := evH_pos hf e; have := sumE_pos hf es; omega
theorem highN_leaf {x : Nd} (hk : x.kind ≠ 1) : highN x = leafH x := by
  unfold highN leafH
  rw [if_neg hk]
theorem sumE_le {L : List Nd} (hn : Nested L) (hf : ∀ y ∈ L, y.fits) : ∀ (d i e : Nat), e ≤ i + d → Clo L i e → i ≤ e → sumE L (evN L i e) ≤ sumI highN (L.take e) - sumI highN (L.take i) := by
  intro d i e hd hc
  refine ev_ind hn (P := fun i e => i ≤ e → sumE L (evN L i e) ≤ sumI highN (L.take e) - sumI highN (L.take i)) ?_ ?_ d i e hd hc
  · intro i e he hi
    obtain rfl : i = e := by omega
    rw [evN_end (Nat.le_refl _), sumE_nil]
    omega
  · intro i e x hi hx hle hin hnx _
    have hl := nxt_lt i x
    have h2 := hnx hle
    have h3 := sumI_take highN hx
    rw [evN_step hi hx hle, sumE_append]
    by_cases hk : x.kind = 1
    · have h4 := hin hk (by omega)
      unfold ev1
      rw [if_pos hk, sumE_cons, sumE_append, sumE_cons, sumE_nil, evH_begin hx, evH_end hx]
      have h5 : highN x = x.sty.top + x.sty.bottom + x.sty.padTop + x.sty.padBottom + x.sty.head := by unfold highN; rw [if_pos hk]
      have h6 := (sty_pos (hf x (List.mem_of_getElem? hx)) hk).2.2.2.2
      omega
    · unfold ev1
      rw [if_neg hk, sumE_cons, sumE_nil, evH_leaf hx, ← highN_leaf hk]
      rw [nxt_leaf hn hx hk] at h2 ⊢
      omega
theorem sumE_all {L : List Nd} (hn : Nested L) (hf : ∀ y ∈ L, y.fits) : sumE L (evN L 0 L.length) ≤ sumI highN L := by
  have := sumE_le hn hf L.length 0 L.length (by omega) (Clo.all hn) (by omega)
  rw [List.take_length] at this
  simpa [sumI_nil] using this
/-- one thing more. -/
theorem ev_ok {L : List Nd} (hf : ∀ y ∈ L, y.fits) {w H : Int} (h1 : 1 ≤ w) (h2 : w ≤ maxX) {s : Gs} (h : GsOk H s) : ∀ e : Ev, GsOk (H + evH L e) (evS L w s e)
  | .begin_ i => by
    cases hx : L[i]? with
    | none =>
      show GsOk (H + (match L[i]? with | some x => x.sty.top + x.sty.padTop | none => 0)) (match L[i]? with | some x => beginS x s | none => s)
      rw [hx]; simpa using h
    | some x => rw [evH_begin hx, evS_begin hx]; exact (begin_ok h (hf x (List.mem_of_getElem? hx))).1
  | .end_ i => by
    cases hx : L[i]? with
    | none =>
      show GsOk (H + (match L[i]? with | some x => x.sty.bottom + x.sty.padBottom | none => 0)) (match L[i]? with | some x => endS x s | none => s)
      rw [hx]; simpa using h
    | some x => rw [evH_end hx, evS_end hx]; exact (end_ok h (hf x (List.mem_of_getElem? hx))).1
  | .leaf i => by
    cases hx : L[i]? with
    | none =>
      show GsOk (H + (match L[i]? with | some x => leafH x | none => 0)) (match L[i]? with | some x => leafS (roomP L w i) i x s | none => s)
      rw [hx]; simpa using h
    | some x =>
      rw [evH_leaf hx, evS_leaf hx]
      obtain ⟨r0, r1, r2, r3⟩ := room_bd hf h1 h2 i
      unfold leafH leafS
      rcases hf x (List.mem_of_getElem? hx) with ⟨hk, _, _, _, _, _, hh, _⟩ | ⟨hk, _, hl, _⟩ | ⟨hk, _, _, _, _, hw, hh, _⟩ | ⟨hk, _, _, _, _, hw, hh, hs⟩
      · rw [if_neg (by omega), if_neg (by omega), if_neg (by omega), if_neg (by omega), hh]; simpa using h
      · rw [if_pos hk, if_pos hk]; have := hl.1; exact (text_ok h (by omega)).1
      · rw [if_neg (by omega), if_neg (by omega), if_pos hk]; have := hh.1; exact (box_ok h (by omega)).1
      · rw [if_neg (by omega), if_neg (by omega), if_neg (by omega), if_pos hk]
        exact float_ok h r0 r1 r2 (by omega) hw.1 hw.2 hh.1 hh.2 (by have := hs.1; have := hs.2; omega)
theorem run_ok {L : List Nd} (hf : ∀ y ∈ L, y.fits) {w : Int} (h1 : 1 ≤ w) (h2 : w ≤ maxX) : ∀ (es : List Ev) {H : Int} {s : Gs}, GsOk H s → GsOk (H + sumE L es) (runS L w s es)
  | [], H, s, h => by rw [sumE_nil]; simpa [runS] using h
  | e :: es, H, s, h => by
    rw [sumE_cons, ← Int.add_assoc]
    exact run_ok hf h1 h2 es (ev_ok hf h1 h2 h e)
/-- how much it makes, at most. -/
theorem evS_len {L : List Nd} {w : Int} (hw : ∀ y ∈ L, y.words.length ≤ 60) (s : Gs) : ∀ e : Ev, (evS L w s e).ams.length ≤ s.ams.length + 60 ∧ (evS L w s e).fls.length ≤ s.fls.length + 1 ∧ s.ams.length ≤ (evS L w s e).ams.length ∧ s.fls.length ≤ (evS L w s e).fls.length
  | .begin_ i => by
    cases hx : L[i]? with
    | none => rw [show evS L w s (.begin_ i) = s by show (match L[i]? with | some x => beginS x s | none => s) = _; rw [hx]]; omega
    | some x => rw [evS_begin hx]; unfold beginS; simp only; omega
  | .end_ i => by
    cases hx : L[i]? with
    | none => rw [show evS L w s (.end_ i) = s by show (match L[i]? with | some x => endS x s | none => s) = _; rw [hx]]; omega
    | some x => rw [evS_end hx]; unfold endS; simp only; omega
  | .leaf i => by
    cases hx : L[i]? with
    | none => rw [show evS L w s (.leaf i) = s by show (match L[i]? with | some x => leafS (roomP L w i) i x s | none => s) = _; rw [hx]]; omega
    | some x =>
      rw [evS_leaf hx]
      have hb := hw x (List.mem_of_getElem? hx)
      have hm := lnsL_most (l := s.fls) (ws := x.words) (sp := x.space) (h := x.line) (a := (roomP L w i).1) (b := (roomP L w i).1 + (roomP L w i).2) s.place
      unfold leafS
      split
      · unfold textS; simp only [List.length_append, List.length_map]; omega
      · split
        · unfold boxS; simp only [List.length_append, List.length_cons, List.length_nil]; omega
        · split
          · unfold floatS putL; simp only [List.length_append, List.length_cons, List.length_nil]; omega
          · omega
theorem runS_len {L : List Nd} {w : Int} (hw : ∀ y ∈ L, y.words.length ≤ 60) : ∀ (es : List Ev) (s : Gs), (runS L w s es).ams.length ≤ s.ams.length + 60 * es.length ∧ (runS L w s es).fls.length ≤ s.fls.length + es.length ∧ s.ams.length ≤ (runS L w s es).ams.length ∧ s.fls.length ≤ (runS L w s es).fls.length
  | [], s => by show s.ams.length ≤ _ ∧ s.fls.length ≤ _ ∧ _ ≤ s.ams.length ∧ _ ≤ s.fls.length; omega
  | e :: es, s => by
    have h1 := evS_len (w := w) hw s e
    have h2 := runS_len (w := w) hw es (evS L w s e)
    have e1 : runS L w s (e :: es) = runS L w (evS L w s e) es := rfl
    rw [e1, List.length_cons]
    omega
theorem evN_len {L : List Nd} (hn : Nested L) : ∀ (d i e : Nat), e ≤ i + d → Clo L i e → (evN L i e).length ≤ 2 * (e - i) := by
  intro d i e hd hc
  refine ev_ind hn (P := fun i e => (evN L i e).length ≤ 2 * (e - i)) ?_ ?_ d i e hd hc
  · intro i e he
    rw [evN_end he]; simp
  · intro i e x hi hx hle hin hnx
    have hl := nxt_lt i x
    rw [evN_step hi hx hle, List.length_append]
    by_cases hk : x.kind = 1
    · have h4 := hin hk
      unfold ev1
      rw [if_pos hk]
      simp only [List.length_cons, List.length_append, List.length_nil]
      omega
    · unfold ev1
      rw [if_neg hk]
      simp only [List.length_cons, List.length_nil]
      omega
end Go.Proofs.YtdjnaejblgheoaaGreat
/- Floats in a row that is written, one number at a time: what a galley's last step makes of them. Nothing of the program stands here. -/
namespace Go.Proofs.YtdjnaejblgheoaaGreat
open Go Go.RowKit
set_option linter.unusedVariables false
set_option linter.unusedSimpArgs false
/-- block g holds these floats, none of their cells frozen. -/
structure FlsAt (w : World) (g : Nat) (l : List Fl) : Prop where
  lt : g < w.heap.size
  cell : ∀ (i : Nat) (x : Fl), l[i]? = some x → ∀ (j : Nat) (v : Value), (encFl x)[j]? = some v → w.cell? ⟨g, i * 7 + j, none⟩ = some v
  free : ∀ o, o < l.length * 7 → w.frozen? ⟨g, o, none⟩ = false
theorem FlsAt.of_owns {w : World} {B : Nat} {e : TypeId} {A : Option Addr} {n c : Nat} {l : List Fl} (h : w.ownsRow B e 7 (.slice A n c) n (l.flatMap encFl)) (hn : 0 < n) : ∃ g, A = some ⟨g, 0, none⟩ ∧ B ≤ g ∧ FlsAt w g l := by
  have hr := ownsRow_rows encFl_len (by decide) h
  rcases h.2 with ⟨h1, h2⟩ | ⟨g, cap, cur, h1, h2, h3, h4⟩
  · omega
  · injection h1 with h1
    subst h1
    refine ⟨g, rfl, h2, (Array.getElem?_eq_some_iff.1 h3).1, fun i x hx j v hv => ?_, fun o ho => ?_⟩
    · obtain ⟨b, off, e1, _, hc⟩ := hr.2.2 hn
      injection e1 with e1
      injection e1 with e2 e3
      subst e2 e3
      have := hc i x hx j v hv
      rw [Nat.zero_add] at this
      exact this
    · simp [World.frozen?, h3]
theorem FlsAt.below {w w' : World} {g : Nat} {l : List Fl} (h : FlsAt w g l) (hb : Below w.heap.size w w') : FlsAt w' g l :=
  ⟨Nat.lt_of_lt_of_le h.lt hb.size, fun i x hx j v hv => (below_cell hb h.lt).trans (h.cell i x hx j v hv), fun o ho => (hb.frozen (p := ⟨g, o, none⟩) h.lt).trans (h.free o ho)⟩
theorem FlsAt.other {w : World} {g k j : Nat} {l : List Fl} (h : FlsAt w g l) (hk : k ≠ g) (v : Value) : FlsAt (w.setCell ⟨k, j, none⟩ v) g l :=
  ⟨by simpa using h.lt, fun i x hx j' v' hv => by rw [World.cell?_setCell_other _ _ _ _ (fun e => hk (by injection e))]; exact h.cell i x hx j' v' hv, fun o ho => by rw [World.frozen?_setCell]; exact h.free o ho⟩
/-- one float's anchor is written. -/
theorem FlsAt.anchor {w : World} {g k : Nat} {l : List Fl} {x : Fl} (h : FlsAt w g l) (hx : l[k]? = some x) (a : Int) : FlsAt (w.setCell ⟨g, k * 7 + 2, none⟩ (.int .i64 a)) g (l.set k { x with anchor := a }) := by
  have hk : k < l.length := (List.getElem?_eq_some_iff.1 hx).1
  refine ⟨by simpa using h.lt, fun i y hy j v hv => ?_, fun o ho => by rw [World.frozen?_setCell]; exact h.free o (by simpa using ho)⟩
  have hj : j < 7 := by have := (List.getElem?_eq_some_iff.1 hv).1; rw [encFl_len] at this; exact this
  by_cases hik : k = i
  · subst hik
    rw [List.getElem?_set_self hk] at hy
    injection hy with hy
    subst hy
    by_cases hj2 : j = 2
    · subst hj2
      simp [encFl] at hv
      subst hv
      exact World.cell?_setCell_same _ _ _ (h.cell k x hx 2 _ rfl)
    · rw [World.cell?_setCell_other _ _ _ _ (fun e => hj2 (by injection e with _ e; omega))]
      refine h.cell k x hx j v ?_
      match j, hj2 with
      | 0, _ => exact hv
      | 1, _ => exact hv
      | 3, _ => exact hv
      | 4, _ => exact hv
      | 5, _ => exact hv
      | 6, _ => exact hv
      | j + 7, _ => omega
  · rw [List.getElem?_set_ne hik] at hy
    rw [World.cell?_setCell_other _ _ _ _ (fun e => hik (by injection e with _ e; omega))]
    exact h.cell i y hy j v hv
theorem FlsAt.rows {w : World} {g n : Nat} {l : List Fl} (h : FlsAt w g l) (hn : l.length = n) (hm : n ≤ 1000) : Rows 7 encFl w (some ⟨g, 0, none⟩) n l :=
  ⟨hn, by omega, fun _ => ⟨g, 0, rfl, h.lt, fun i x hx j v hv => by rw [Nat.zero_add]; exact h.cell i x hx j v hv⟩⟩
/-- the first k floats' anchors are told; the others' aren't yet. -/
def anchTo (a : Int) (l : List Fl) (k : Nat) : List Fl := (l.take k).map (anchF a) ++ l.drop k
theorem anchTo_zero (a : Int) (l : List Fl) : anchTo a l 0 = l := by unfold anchTo; simp
theorem anchTo_all {a : Int} {l : List Fl} {k : Nat} (h : l.length ≤ k) : anchTo a l k = l.map (anchF a) := by
  unfold anchTo
  rw [List.take_of_length_le h, List.drop_eq_nil_of_le h, List.append_nil]
theorem anchTo_len (a : Int) (l : List Fl) (k : Nat) : (anchTo a l k).length = l.length := by
  unfold anchTo
  rw [List.length_append, List.length_map, List.length_take, List.length_drop]
  omega
theorem anchTo_at {a : Int} {l : List Fl} {k : Nat} {x : Fl} (hx : l[k]? = some x) : (anchTo a l k)[k]? = some x := by
  have hk : k < l.length := (List.getElem?_eq_some_iff.1 hx).1
  unfold anchTo
  rw [List.getElem?_append_right (by rw [List.length_map, List.length_take]; omega), List.length_map, List.length_take, List.getElem?_drop]
  rw [show k + (k - min k l.length) = k by omega]
  exact hx
theorem anchTo_step {a : Int} {l : List Fl} {k : Nat} {x : Fl} (hx : l[k]? = some x) : anchTo a l (k + 1) = (anchTo a l k).set k (anchF a x) := by
  have hk : k < l.length := (List.getElem?_eq_some_iff.1 hx).1
  have e : l.drop k = x :: l.drop (k + 1) := by
    rw [List.drop_eq_getElem_cons hk]
    congr 1
    rw [List.getElem?_eq_getElem hk] at hx
    injection hx
  unfold anchTo
  rw [e, List.set_append_right _ _ (by rw [List.length_map, List.length_take]; omega), take_one hx, List.map_append, List.length_map, List.length_take]
  rw [show k - min k l.length = 0 by omega]
  simp
/-- the height, as far as the first k floats tell it. -/
def highTo (s : Gs) (k : Nat) : Int := (s.fls.take k).foldl (fun h f => max h (f.y + f.h)) s.place
theorem highTo_zero (s : Gs) : highTo s 0 = s.place := by unfold highTo; simp
theorem highTo_all (s : Gs) : highTo s s.fls.length = highS s := by unfold highTo highS; rw [List.take_length]
theorem highTo_step {s : Gs} {k : Nat} {x : Fl} (hx : s.fls[k]? = some x) : highTo s (k + 1) = max (highTo s k) (x.y + x.h) := by
  unfold highTo
  rw [take_one hx, List.foldl_append]
  rfl
theorem highTo_bd {s : Gs} {H : Int} (h : GsOk H s) : ∀ k, 0 ≤ highTo s k ∧ highTo s k ≤ H := by
  intro k
  induction k with
  | zero => rw [highTo_zero]; exact ⟨by have := h.p0; have := h.p1; unfold Gs.place; omega, h.p2⟩
  | succ k ih =>
    by_cases hk : k < s.fls.length
    · have hx : s.fls[k]? = some s.fls[k] := List.getElem?_eq_getElem hk
      have hf := h.fls s.fls[k] (List.getElem_mem hk)
      rw [highTo_step hx]
      have := hf.y1
      omega
    · have e : highTo s (k + 1) = highTo s k := by
        unfold highTo
        rw [List.take_of_length_le (by omega), List.take_of_length_le (by omega)]
      rw [e]
      exact ih
end Go.Proofs.YtdjnaejblgheoaaGreat
/- The order in which a galley grows: what happens, leaf by leaf; what is there stays. Nothing of the program stands here. -/
namespace Go.Proofs.YtdjnaejblgheoaaGreat
open Go
set_option linter.unusedVariables false
set_option linter.unusedSimpArgs false
/-- the nodes that are no blocks, as they come. -/
def leavesE : List Ev → List Nat
  | [] => []
  | .leaf i :: es => i :: leavesE es
  | .begin_ _ :: es => leavesE es
  | .end_ _ :: es => leavesE es
theorem leavesE_append : ∀ (a b : List Ev), leavesE (a ++ b) = leavesE a ++ leavesE b
  | [], b => rfl
  | .leaf i :: es, b => by show i :: leavesE (es ++ b) = i :: leavesE es ++ leavesE b; rw [leavesE_append es b]; rfl
  | .begin_ i :: es, b => leavesE_append es b
  | .end_ i :: es, b => leavesE_append es b
def leafB (L : List Nd) (i : Nat) : Bool := match L[i]? with
  | some x => !decide (x.kind = 1)
  | none => false
def leavesN (L : List Nd) (i e : Nat) : List Nat := (List.range' i (e - i)).filter (leafB L)
theorem leavesN_end {L : List Nd} {i e : Nat} (h : e ≤ i) : leavesN L i e = [] := by unfold leavesN; rw [show e - i = 0 by omega]; rfl
theorem leavesN_split {L : List Nd} {i j e : Nat} (h1 : i ≤ j) (h2 : j ≤ e) : leavesN L i e = leavesN L i j ++ leavesN L j e := by
  unfold leavesN
  rw [← List.filter_append]
  congr 1
  have : e - i = (j - i) + (e - j) := by omega
  rw [this, ← List.range'_append_1]
  rw [show i + (j - i) = j by omega]
theorem leavesN_one {L : List Nd} {i : Nat} {x : Nd} (hx : L[i]? = some x) : leavesN L i (i + 1) = if x.kind = 1 then [] else [i] := by
  unfold leavesN
  rw [show i + 1 - i = 1 by omega]
  simp only [List.range'_one, List.filter_cons, List.filter_nil]
  unfold leafB
  rw [hx]
  by_cases hk : x.kind = 1 <;> simp [hk]
theorem leaves_ev {L : List Nd} (hn : Nested L) : ∀ (d i e : Nat), e ≤ i + d → Clo L i e → leavesE (evN L i e) = leavesN L i e := by
  intro d i e hd hc
  refine ev_ind hn (P := fun i e => leavesE (evN L i e) = leavesN L i e) ?_ ?_ d i e hd hc
  · intro i e he
    rw [evN_end he, leavesN_end he]
    rfl
  · intro i e x hi hx hle hin hnx
    have hl := nxt_lt i x
    rw [evN_step hi hx hle, leavesE_append, hnx, leavesN_split (show i ≤ nxt i x by omega) hle]
    congr 1
    by_cases hk : x.kind = 1
    · rw [leavesN_split (show i ≤ i + 1 by omega) (show i + 1 ≤ nxt i x by omega), leavesN_one hx, if_pos hk, List.nil_append, ← hin hk]
      unfold ev1
      rw [if_pos hk]
      show leavesE (evN L (i + 1) (nxt i x) ++ [.end_ i]) = _
      rw [leavesE_append]
      show leavesE _ ++ [] = _
      rw [List.append_nil]
    · rw [nxt_leaf hn hx hk, leavesN_one hx, if_neg hk]
      unfold ev1
      rw [if_neg hk]
      rfl
theorem leaves_all {L : List Nd} (hn : Nested L) : leavesE (evN L 0 L.length) = leavesN L 0 L.length := leaves_ev hn L.length 0 L.length (by omega) (Clo.all hn)
/-- the next leaf, and what comes ahead of it. -/
theorem leaf_next : ∀ {es : List Ev} {j : Nat} {js : List Nat}, leavesE es = j :: js → ∃ mid post, es = mid ++ .leaf j :: post ∧ leavesE mid = [] ∧ leavesE post = js
  | [], j, js, h => by cases h
  | .leaf i :: es, j, js, h => by
    injection h with h1 h2
    subst h1
    exact ⟨[], es, rfl, rfl, h2⟩
  | .begin_ i :: es, j, js, h => by
    obtain ⟨mid, post, e1, e2, e3⟩ := leaf_next (es := es) h
    exact ⟨.begin_ i :: mid, post, by rw [e1]; rfl, e2, e3⟩
  | .end_ i :: es, j, js, h => by
    obtain ⟨mid, post, e1, e2, e3⟩ := leaf_next (es := es) h
    exact ⟨.end_ i :: mid, post, by rw [e1]; rfl, e2, e3⟩
theorem leavesN_cons {L : List Nd} {i : Nat} {x : Nd} (hx : L[i]? = some x) : leavesN L i L.length = (if x.kind = 1 then [] else [i]) ++ leavesN L (i + 1) L.length := by
  have hi : i < L.length := (List.getElem?_eq_some_iff.1 hx).1
  rw [leavesN_split (show i ≤ i + 1 by omega) (show i + 1 ≤ L.length by omega), leavesN_one hx]
/-- what is there stays, and the pen's place never rises. -/
structure Grows (s t : Gs) : Prop where
  ams : ∃ l, t.ams = s.ams ++ l
  fls : ∃ l, t.fls = s.fls ++ l
  place : s.place ≤ t.place
theorem Grows.refl (s : Gs) : Grows s s := ⟨⟨[], by simp⟩, ⟨[], by simp⟩, Int.le_refl _⟩
theorem Grows.trans {s t u : Gs} (h : Grows s t) (k : Grows t u) : Grows s u := by
  obtain ⟨l1, e1⟩ := h.ams
  obtain ⟨l2, e2⟩ := k.ams
  obtain ⟨m1, f1⟩ := h.fls
  obtain ⟨m2, f2⟩ := k.fls
  exact ⟨⟨l1 ++ l2, by rw [e2, e1, List.append_assoc]⟩, ⟨m1 ++ m2, by rw [f2, f1, List.append_assoc]⟩, Int.le_trans h.place k.place⟩
theorem ev_grows {L : List Nd} (hf : ∀ y ∈ L, y.fits) {w H : Int} {s : Gs} (h : GsOk H s) : ∀ e : Ev, Grows s (evS L w s e)
  | .begin_ i => by
    cases hx : L[i]? with
    | none => rw [show evS L w s (.begin_ i) = s by show (match L[i]? with | some x => beginS x s | none => s) = _; rw [hx]]; exact Grows.refl s
    | some x => rw [evS_begin hx]; exact ⟨⟨[], by simp [beginS]⟩, ⟨[], by simp [beginS]⟩, (begin_ok h (hf x (List.mem_of_getElem? hx))).2⟩
  | .end_ i => by
    cases hx : L[i]? with
    | none => rw [show evS L w s (.end_ i) = s by show (match L[i]? with | some x => endS x s | none => s) = _; rw [hx]]; exact Grows.refl s
    | some x => rw [evS_end hx]; exact ⟨⟨[], by simp [endS]⟩, ⟨[], by simp [endS]⟩, (end_ok h (hf x (List.mem_of_getElem? hx))).2⟩
  | .leaf i => by
    cases hx : L[i]? with
    | none => rw [show evS L w s (.leaf i) = s by show (match L[i]? with | some x => leafS (roomP L w i) i x s | none => s) = _; rw [hx]]; exact Grows.refl s
    | some x =>
      rw [evS_leaf hx]
      unfold leafS
      rcases hf x (List.mem_of_getElem? hx) with ⟨hk, _⟩ | ⟨hk, _, hl, _⟩ | ⟨hk, _, _, _, _, hw, hh, _⟩ | ⟨hk, _⟩
      · rw [if_neg (by omega), if_neg (by omega), if_neg (by omega)]; exact Grows.refl s
      · rw [if_pos hk]
        exact ⟨⟨_, rfl⟩, ⟨[], by simp [textS]⟩, (text_ok h (by have := hl.1; omega)).2⟩
      · rw [if_neg (by omega), if_pos hk]
        have hb := box_ok (rm := roomP L w i) (i := i) h (show 0 ≤ x.h by have := hh.1; omega)
        exact ⟨⟨_, rfl⟩, ⟨[], by simp [boxS]⟩, by show s.place ≤ boxY (roomP L w i) x s + x.h + 0; have := hh.1; omega⟩
      · rw [if_neg (by omega), if_neg (by omega), if_pos hk]
        exact ⟨⟨[], by simp [floatS]⟩, ⟨_, rfl⟩, Int.le_refl _⟩
theorem run_grows {L : List Nd} (hf : ∀ y ∈ L, y.fits) {w : Int} (h1 : 1 ≤ w) (h2 : w ≤ maxX) : ∀ (es : List Ev) {H : Int} {s : Gs}, GsOk H s → Grows s (runS L w s es)
  | [], H, s, h => Grows.refl s
  | e :: es, H, s, h => (ev_grows hf h e).trans (run_grows hf h1 h2 es (ev_ok hf h1 h2 h e))
/-- where no leaf is, atoms and floats stay. -/
theorem run_mid {L : List Nd} {w : Int} : ∀ (es : List Ev) (s : Gs), leavesE es = [] → (runS L w s es).ams = s.ams ∧ (runS L w s es).fls = s.fls
  | [], s, _ => ⟨rfl, rfl⟩
  | .leaf i :: es, s, h => by cases h
  | .begin_ i :: es, s, h => by
    have ih := run_mid (L := L) (w := w) es (evS L w s (.begin_ i)) h
    have e1 : (evS L w s (.begin_ i)).ams = s.ams ∧ (evS L w s (.begin_ i)).fls = s.fls := by
      cases hx : L[i]? with
      | none => rw [show evS L w s (.begin_ i) = s by show (match L[i]? with | some x => beginS x s | none => s) = _; rw [hx]]; exact ⟨rfl, rfl⟩
      | some x => rw [evS_begin hx]; exact ⟨rfl, rfl⟩
    exact ⟨ih.1.trans e1.1, ih.2.trans e1.2⟩
  | .end_ i :: es, s, h => by
    have ih := run_mid (L := L) (w := w) es (evS L w s (.end_ i)) h
    have e1 : (evS L w s (.end_ i)).ams = s.ams ∧ (evS L w s (.end_ i)).fls = s.fls := by
      cases hx : L[i]? with
      | none => rw [show evS L w s (.end_ i) = s by show (match L[i]? with | some x => endS x s | none => s) = _; rw [hx]]; exact ⟨rfl, rfl⟩
      | some x => rw [evS_end hx]; exact ⟨rfl, rfl⟩
    exact ⟨ih.1.trans e1.1, ih.2.trans e1.2⟩
/-- as far as node i: what has happened, and what hasn't yet. -/
structure Upto (L : List Nd) (w : Int) (i : Nat) (s : Gs) : Prop where
  ex : ∃ pre post, evN L 0 L.length = pre ++ post ∧ s = runS L w .start pre ∧ leavesE post = leavesN L i L.length
theorem Upto.zero {L : List Nd} (hn : Nested L) (w : Int) : Upto L w 0 .start := ⟨[], evN L 0 L.length, rfl, rfl, leaves_all hn⟩
theorem Upto.block {L : List Nd} {w : Int} {i : Nat} {s : Gs} {x : Nd} (h : Upto L w i s) (hx : L[i]? = some x) (hk : x.kind = 1) : Upto L w (i + 1) s := by
  obtain ⟨pre, post, h1, h2, h3⟩ := h.ex
  rw [leavesN_cons hx, if_pos hk, List.nil_append] at h3
  exact ⟨pre, post, h1, h2, h3⟩
/-- a leaf: it comes next, on a galley with the same atoms and floats. -/
theorem Upto.leaf {L : List Nd} (hf : ∀ y ∈ L, y.fits) {w : Int} (w1 : 1 ≤ w) (w2 : w ≤ maxX) {i : Nat} {s : Gs} {x : Nd} (h : Upto L w i s) (hx : L[i]? = some x) (hk : x.kind ≠ 1) :
    ∃ t, t.ams = s.ams ∧ t.fls = s.fls ∧ s.place ≤ t.place ∧ (∃ H, GsOk H t ∧ H ≤ sumE L (evN L 0 L.length)) ∧ Upto L w (i + 1) (leafS (roomP L w i) i x t) := by
  obtain ⟨pre, post, h1, h2, h3⟩ := h.ex
  rw [leavesN_cons hx, if_neg hk] at h3
  obtain ⟨mid, post', e1, e2, e3⟩ := leaf_next h3
  have hok := run_ok hf w1 w2 pre (w := w) GsOk.start
  have hg := run_grows hf w1 w2 mid hok
  have hm := run_mid (L := L) (w := w) mid (runS L w .start pre) e2
  refine ⟨runS L w s mid, by rw [h2]; exact hm.1, by rw [h2]; exact hm.2, by rw [h2]; exact hg.place, ⟨_, by rw [h2]; exact run_ok hf w1 w2 mid hok, ?_⟩, ⟨pre ++ mid ++ [.leaf i], post', ?_, ?_, e3⟩⟩
  · rw [h1, e1, sumE_append, sumE_append]
    have := sumE_pos hf (.leaf i :: post')
    omega
  · rw [h1, e1]; simp
  · rw [runS_append, runS_append, h2]
    show _ = evS L w (runS L w (runS L w .start pre) mid) (.leaf i)
    rw [evS_leaf hx]
theorem Upto.grows {L : List Nd} (hf : ∀ y ∈ L, y.fits) {w : Int} (w1 : 1 ≤ w) (w2 : w ≤ maxX) {i : Nat} {s : Gs} (h : Upto L w i s) : Grows s (galS L w) := by
  obtain ⟨pre, post, h1, h2, h3⟩ := h.ex
  unfold galS
  rw [h1, runS_append, h2]
  exact run_grows hf w1 w2 post (run_ok hf w1 w2 pre GsOk.start)
theorem Upto.end_ {L : List Nd} {w : Int} {s : Gs} (h : Upto L w L.length s) : (galS L w).ams = s.ams ∧ (galS L w).fls = s.fls := by
  obtain ⟨pre, post, h1, h2, h3⟩ := h.ex
  rw [leavesN_end (Nat.le_refl _)] at h3
  unfold galS
  rw [h1, runS_append, h2]
  exact run_mid post _ h3
theorem Upto.ok {L : List Nd} (hf : ∀ y ∈ L, y.fits) {w : Int} (w1 : 1 ≤ w) (w2 : w ≤ maxX) {i : Nat} {s : Gs} (h : Upto L w i s) : ∃ H, GsOk H s ∧ H ≤ sumE L (evN L 0 L.length) := by
  obtain ⟨pre, post, h1, h2, h3⟩ := h.ex
  refine ⟨0 + sumE L pre, by rw [h2]; exact run_ok hf w1 w2 pre GsOk.start, ?_⟩
  rw [h1, sumE_append]
  have := sumE_pos hf post
  omega
end Go.Proofs.YtdjnaejblgheoaaGreat
/- Each once, in order, below what is ahead: what is told of a galley leaf by leaf. Nothing of the program stands here. -/
namespace Go.Proofs.YtdjnaejblgheoaaGreat
open Go
set_option linter.unusedVariables false
set_option linter.unusedSimpArgs false
theorem topstep_ge : ∀ (r : List Fl) (b : Int), b ≤ r.foldl topStep b ∧ ∀ f ∈ r, f.y ≤ r.foldl topStep b
  | [], b => ⟨Int.le_refl _, fun f hf => by cases hf⟩
  | g :: r, b => by
    obtain ⟨h1, h2⟩ := topstep_ge r (topStep b g)
    have h3 : b ≤ topStep b g ∧ g.y ≤ topStep b g := by unfold topStep; split <;> omega
    refine ⟨Int.le_trans h3.1 h1, fun f hf => ?_⟩
    rcases List.mem_cons.1 hf with rfl | hf
    · exact Int.le_trans h3.2 h1
    · exact h2 f hf
theorem top_ge : ∀ {l : List Fl} {f : Fl}, f ∈ l → f.y ≤ topF l
  | g :: r, f, hf => by
    obtain ⟨h1, h2⟩ := topstep_ge r g.y
    rcases List.mem_cons.1 hf with rfl | hf
    · exact h1
    · exact h2 f hf
/-- no float stands higher than one ahead. -/
theorem start_ge {l : List Fl} {f : Fl} (hf : f ∈ l) (y : Int) : f.y ≤ startY l y := by
  have h1 := top_ge hf
  have h2 : (topL l).2 = true := by unfold topL; simp; exact List.length_pos_of_mem hf
  unfold startY
  split
  · exact h1
  · rename_i hn
    rw [h2] at hn
    have : (topL l).1 = topF l := rfl
    simp only [true_and, this] at hn
    omega
theorem high_ge : ∀ (l : List Fl) (b : Int), b ≤ l.foldl (fun h f => max h (f.y + f.h)) b ∧ ∀ f ∈ l, f.y + f.h ≤ l.foldl (fun h f => max h (f.y + f.h)) b
  | [], b => ⟨Int.le_refl _, fun f hf => by cases hf⟩
  | g :: r, b => by
    obtain ⟨h1, h2⟩ := high_ge r (max b (g.y + g.h))
    refine ⟨Int.le_trans (by omega) h1, fun f hf => ?_⟩
    rcases List.mem_cons.1 hf with rfl | hf
    · exact Int.le_trans (by omega) h1
    · exact h2 f hf
theorem highS_place (s : Gs) : s.place ≤ highS s := (high_ge s.fls s.place).1
theorem highS_fl {s : Gs} {f : Fl} (hf : f ∈ s.fls) : f.y + f.h ≤ highS s := (high_ge s.fls s.place).2 f hf
theorem anchF_same (a : Int) (f : Fl) : (anchF a f).node = f.node ∧ (anchF a f).side = f.side ∧ (anchF a f).x = f.x ∧ (anchF a f).y = f.y ∧ (anchF a f).w = f.w ∧ (anchF a f).h = f.h := by
  unfold anchF
  split <;> exact ⟨rfl, rfl, rfl, rfl, rfl, rfl⟩
theorem anchF_bd {a : Int} {f : Fl} (h0 : 0 ≤ f.anchor) (ha : f.anchor ≤ a) : 0 ≤ (anchF a f).anchor ∧ (anchF a f).anchor ≤ f.anchor := by
  unfold anchF
  split
  · simp only
    omega
  · omega
/-- what is told of a float, where it comes. -/
theorem once_float {L : List Nd} (hf : ∀ y ∈ L, y.fits) {w : Int} (w1 : 1 ≤ w) (w2 : w ≤ maxX) {i : Nat} {s : Gs} {x : Nd} (h : Upto L w i s) (hx : L[i]? = some x) (hk : x.kind = 4) :
    ∃ t y, Upto L w (i + 1) t ∧ t.ams = s.ams ∧ t.fls.length = s.fls.length + 1 ∧ s.place ≤ t.place ∧ (floatsS (galS L w))[s.fls.length]? = some y ∧ y.node = (i : Int) ∧ y.side = x.side ∧ y.w = x.w ∧ y.h = x.h ∧ y.anchor ≤ (s.ams.length : Int) ∧ 0 ≤ y.anchor ∧ 0 ≤ y.y ∧ y.y + y.h ≤ highS (galS L w) ∧
      (∀ z, 0 < s.fls.length → (floatsS (galS L w))[s.fls.length - 1]? = some z → z.y ≤ y.y) := by
  obtain ⟨t, ht1, ht2, ht3, ⟨H, hH, _⟩, hu⟩ := h.leaf hf w1 w2 hx (by omega)
  have e : leafS (roomP L w i) i x t = floatS (roomP L w i) i x t := by unfold leafS; rw [if_neg (by omega), if_neg (by omega), if_pos hk]
  rw [e] at hu
  obtain ⟨la, hla⟩ := (hu.grows hf w1 w2).ams
  obtain ⟨lf, hlf⟩ := (hu.grows hf w1 w2).fls
  have ha : (galS L w).ams.length = s.ams.length + la.length := by rw [hla]; show (t.ams ++ la).length = _; rw [List.length_append, ht1]
  obtain ⟨y, hy⟩ : ∃ y, ({ (⟨(i : Int), x.side, (t.ams.length : Int), 0, 0, x.w, x.h⟩ : Fl) with x := spotX t.fls ⟨(i : Int), x.side, (t.ams.length : Int), 0, 0, x.w, x.h⟩ t.place (roomP L w i).1 ((roomP L w i).1 + (roomP L w i).2), y := spotY t.fls ⟨(i : Int), x.side, (t.ams.length : Int), 0, 0, x.w, x.h⟩ t.place (roomP L w i).1 ((roomP L w i).1 + (roomP L w i).2) } : Fl) = y := ⟨_, rfl⟩
  have hfl : (floatS (roomP L w i) i x t).fls = t.fls ++ [y] := by unfold floatS putL; rw [hy]
  have hgf : (galS L w).fls = s.fls ++ ([y] ++ lf) := by rw [hlf, hfl, ht2, List.append_assoc]
  have hat : (galS L w).fls[s.fls.length]? = some y := by rw [hgf, List.getElem?_append_right (Nat.le_refl _)]; simp
  have hmem : y ∈ (galS L w).fls := List.mem_of_getElem? hat
  obtain ⟨H2, hH2, _⟩ := hu.ok hf w1 w2
  have hyo := hH2.fls y (by rw [hfl]; simp)
  have hya : y.anchor = (s.ams.length : Int) := by rw [← hy, ht1]
  have hs := anchF_same ((galS L w).ams.length : Int) y
  have hb := anchF_bd (a := ((galS L w).ams.length : Int)) (f := y) (by rw [hya]; omega) (by rw [hya, ha]; omega)
  refine ⟨floatS (roomP L w i) i x t, anchF ((galS L w).ams.length : Int) y, hu, ht1, by rw [hfl, List.length_append, ht2]; rfl, ht3, ?_, ?_, ?_, ?_, ?_, ?_, hb.1, ?_, ?_, ?_⟩
  · unfold floatsS; rw [List.getElem?_map, hat]; rfl
  · rw [hs.1, ← hy]
  · rw [hs.2.1, ← hy]
  · rw [hs.2.2.2.2.1, ← hy]
  · rw [hs.2.2.2.2.2, ← hy]
  · rw [← hya]; exact hb.2
  · rw [hs.2.2.2.1]; exact hyo.y0
  · rw [hs.2.2.2.1, hs.2.2.2.2.2]; exact highS_fl hmem
  · intro z h0 hz
    unfold floatsS at hz
    rw [List.getElem?_map, hgf, List.getElem?_append_left (by omega)] at hz
    cases hz2 : s.fls[s.fls.length - 1]? with
    | none => rw [hz2] at hz; cases hz
    | some z0 =>
      rw [hz2] at hz
      injection hz with hz
      have h1 := anchF_same ((galS L w).ams.length : Int) z0
      rw [← hz, h1.2.2.2.1, hs.2.2.2.1]
      have h2 := start_ge (List.mem_of_getElem? hz2) t.place
      have h3 := (spotY_bds (l := t.fls) hH.fls ⟨(i : Int), x.side, (t.ams.length : Int), 0, 0, x.w, x.h⟩ (a := (roomP L w i).1) (b := (roomP L w i).1 + (roomP L w i).2) hH.p2).1
      have h4 : y.y = spotY t.fls ⟨(i : Int), x.side, (t.ams.length : Int), 0, 0, x.w, x.h⟩ t.place (roomP L w i).1 ((roomP L w i).1 + (roomP L w i).2) := by rw [← hy]
      rw [h4]
      rw [ht2] at h3 ⊢
      omega
/-- what is told of a box, where it comes. -/
theorem once_box {L : List Nd} (hf : ∀ y ∈ L, y.fits) {w : Int} (w1 : 1 ≤ w) (w2 : w ≤ maxX) {i : Nat} {s : Gs} {x : Nd} (h : Upto L w i s) (hx : L[i]? = some x) (hk : x.kind = 3) :
    ∃ t y, Upto L w (i + 1) t ∧ t.fls = s.fls ∧ t.ams.length = s.ams.length + 1 ∧ (galS L w).ams[s.ams.length]? = some y ∧ y.kind = 2 ∧ y.node = (i : Int) ∧ y.w = x.w ∧ y.h = x.h ∧ s.place ≤ y.y ∧ y.y + y.h = t.place ∧ 0 ≤ y.y ∧ t.place ≤ highS (galS L w) := by
  obtain ⟨t, ht1, ht2, ht3, ⟨H, hH, _⟩, hu⟩ := h.leaf hf w1 w2 hx (by omega)
  have e : leafS (roomP L w i) i x t = boxS (roomP L w i) i x t := by unfold leafS; rw [if_neg (by omega), if_pos hk]
  rw [e] at hu
  have hg := hu.grows hf w1 w2
  obtain ⟨la, hla⟩ := hg.ams
  have hge : t.place ≤ boxY (roomP L w i) x t := seekE_ge _
  have h0 : 0 ≤ t.place := by have := hH.p0; have := hH.p1; unfold Gs.place; omega
  refine ⟨boxS (roomP L w i) i x t, ⟨2, (i : Int), 0, 0, (bandL t.fls (boxY (roomP L w i) x t) x.h ((roomP L w i).1, (roomP L w i).1 + (roomP L w i).2)).1, boxY (roomP L w i) x t, x.w, x.h⟩, hu, ht2, ?_, ?_, rfl, rfl, rfl, rfl, by simp only; omega, ?_, by simp only; omega, Int.le_trans hg.place (highS_place _)⟩
  · unfold boxS; simp only [List.length_append, ht1]; rfl
  · rw [hla]
    unfold boxS
    simp only
    rw [ht1, List.append_assoc, List.getElem?_append_right (Nat.le_refl _)]
    simp
  · show boxY (roomP L w i) x t + x.h = (boxY (roomP L w i) x t + x.h) + 0
    omega
/-- lines from word i on, from y on, until all words are set. -/
def Chain (ws : List Int) (sp h : Int) : Nat → Int → List Ln → Prop
  | i, y, [] => i = ws.length
  | i, y, z :: r => z.from_ = (i : Int) ∧ y ≤ z.y ∧ ∃ j : Nat, z.to_ = (j : Int) ∧ i < j ∧ j ≤ ws.length ∧ z.w = wideN ws sp i j ∧ Chain ws sp h j (z.y + h) r
theorem lns_chain {l : List Fl} {ws : List Int} {sp h a b : Int} : ∀ (f i : Nat) (y : Int), ws.length ≤ i + f → i ≤ ws.length → Chain ws sp h i y (lnsL l ws sp h a b i y)
  | 0, i, y, hf, hi => by rw [lnsL_end (by omega)]; show i = ws.length; omega
  | f + 1, i, y, hf, hi => by
    by_cases hlt : i < ws.length
    · rw [lnsL_step hlt]
      obtain ⟨j, hj, h1, h2⟩ := lineL_to l ws sp h a b y hlt
      refine ⟨rfl, seekE_ge _, j, hj, h1, h2, ?_, ?_⟩
      · have e : ((endP ws sp (lenW (bandL l (seekE l h (wordI ws i) a b y) h (a, b)).1 (bandL l (seekE l h (wordI ws i) a b y) h (a, b)).2) i : Nat) : Int) = (j : Int) := hj
        show wideN ws sp i (endP ws sp (lenW (bandL l (seekE l h (wordI ws i) a b y) h (a, b)).1 (bandL l (seekE l h (wordI ws i) a b y) h (a, b)).2) i) = _
        rw [show endP ws sp (lenW (bandL l (seekE l h (wordI ws i) a b y) h (a, b)).1 (bandL l (seekE l h (wordI ws i) a b y) h (a, b)).2) i = j by omega]
      · rw [hj, Int.toNat_natCast]
        exact lns_chain f j _ (by omega) h2
    · rw [lnsL_end (by omega)]
      show i = ws.length
      omega
theorem chain_pen {ws : List Int} {sp h : Int} (h0 : 0 ≤ h) : ∀ (r : List Ln) (i : Nat) (y : Int) (p : Int × Int), Chain ws sp h i y r → p.1 + p.2 ≤ y → p.1 + p.2 ≤ (penLns h p r).1 + (penLns h p r).2 ∧ ∀ z ∈ r, z.y + h ≤ (penLns h p r).1 + (penLns h p r).2
  | [], i, y, p, _, hp => ⟨Int.le_refl _, fun z hz => by cases hz⟩
  | z :: r, i, y, p, hc, hp => by
    obtain ⟨_, hy, j, _, _, _, _, hr⟩ := hc
    obtain ⟨h1, h2⟩ := chain_pen h0 r j (z.y + h) (z.y + h, 0) hr (by simp)
    have e : penLns h p (z :: r) = penLns h (z.y + h, 0) r := rfl
    rw [e]
    simp only at h1
    refine ⟨by omega, fun q hq => ?_⟩
    rcases List.mem_cons.1 hq with rfl | hq
    · omega
    · exact h2 q hq
/-- what is told of a text, where it comes. -/
theorem once_text {L : List Nd} (hf : ∀ y ∈ L, y.fits) {w : Int} (w1 : 1 ≤ w) (w2 : w ≤ maxX) {i : Nat} {s : Gs} {x : Nd} (h : Upto L w i s) (hx : L[i]? = some x) (hk : x.kind = 2) :
    ∃ (t : Gs) (ls : List Ln) (y0 : Int), Upto L w (i + 1) t ∧ t.fls = s.fls ∧ t.ams = s.ams ++ ls.map (lineAm i x.line) ∧ Chain x.words x.space x.line 0 y0 ls ∧ s.place ≤ y0 ∧ 0 ≤ y0 ∧ (∀ z ∈ ls, z.y + x.line ≤ t.place) ∧ t.place ≤ highS (galS L w) ∧ (∃ la, (galS L w).ams = t.ams ++ la) := by
  obtain ⟨t, ht1, ht2, ht3, ⟨H, hH, _⟩, hu⟩ := h.leaf hf w1 w2 hx (by omega)
  have e : leafS (roomP L w i) i x t = textS (roomP L w i) i x t := by unfold leafS; rw [if_pos hk]
  rw [e] at hu
  have hg := hu.grows hf w1 w2
  have hl : 0 ≤ x.line := by
    rcases hf x (List.mem_of_getElem? hx) with ⟨h, _⟩ | ⟨_, _, hl, _⟩ | ⟨h, _⟩ | ⟨h, _⟩
    · omega
    · have := hl.1; omega
    · omega
    · omega
  have hc := lns_chain (l := t.fls) (ws := x.words) (sp := x.space) (h := x.line) (a := (roomP L w i).1) (b := (roomP L w i).1 + (roomP L w i).2) x.words.length 0 t.place (by omega) (by omega)
  have h0 : 0 ≤ t.place := by have := hH.p0; have := hH.p1; unfold Gs.place; omega
  have hp := chain_pen hl _ 0 t.place t.pen hc (Int.le_refl _)
  exact ⟨textS (roomP L w i) i x t, lnsL t.fls x.words x.space x.line (roomP L w i).1 ((roomP L w i).1 + (roomP L w i).2) 0 t.place, t.place, hu, ht2, by unfold textS; simp only; rw [ht1], hc, ht3, h0, hp.2, Int.le_trans hg.place (highS_place _), hg.ams⟩
end Go.Proofs.YtdjnaejblgheoaaGreat
