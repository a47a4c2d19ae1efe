import Derived.Test.YtipmdhfinlkceaaGreatJP01
/- FlowInv, FlowRun, FlowAnch, FlowOrder, AtomsPartsM. -/
set_option linter.unusedVariables false
set_option linter.unusedSimpArgs false
namespace Go.Proofs.YtipmdhfinlkceaaGreat
open Go
theorem low_from {l0 : List Fl} (sides : Int) : ∀ (l : List Fl) (s : Int × Bool), (∀ f ∈ l, f ∈ l0) → (s.2 = true → ∃ f ∈ l0, s.1 = f.y + f.h) → (l.foldl (lowStep sides) s).2 = true → ∃ f ∈ l0, (l.foldl (lowStep sides) s).1 = f.y + f.h
  | [], s, _, hs, h => hs h
  | f :: r, s, hl, hs, h => by
    refine low_from sides r (lowStep sides s f) (fun g hg => hl g (List.mem_cons_of_mem _ hg)) ?_ h
    intro hq
    unfold lowStep at hq ⊢
    split
    · rename_i h1
      rw [if_pos h1] at hq
      exact hs hq
    · split
      · exact ⟨f, hl f (by simp), rfl⟩
      · rename_i h1 h2
        rw [if_neg h1, if_neg h2] at hq
        exact hs hq
theorem lowest_from {l : List Fl} {sides : Int} (h : (lowestL l sides).2 = true) : ∃ f ∈ l, (lowestL l sides).1 = f.y + f.h := low_from sides l (0, false) (fun f hf => hf) (fun h => by cases h) h
theorem topstep_from {l0 : List Fl} : ∀ (r : List Fl) (b : Int), (∀ f ∈ r, f ∈ l0) → (∃ f ∈ l0, b = f.y) → ∃ f ∈ l0, r.foldl topStep b = f.y
  | [], b, _, hb => hb
  | f :: r, b, hl, hb => by
    refine topstep_from r (topStep b f) (fun g hg => hl g (List.mem_cons_of_mem _ hg)) ?_
    unfold topStep
    split
    · exact ⟨f, hl f (by simp), rfl⟩
    · exact hb
theorem top_from : ∀ {l : List Fl}, l ≠ [] → ∃ f ∈ l, topF l = f.y
  | [], h => absurd rfl h
  | f :: r, _ => topstep_from (l0 := f :: r) r f.y (fun g hg => List.mem_cons_of_mem _ hg) ⟨f, by simp, rfl⟩
structure FlOk (H : Int) (f : Fl) : Prop where
  side : f.side = 1 ∨ f.side = 2
  x0 : 0 ≤ f.x
  x1 : f.x + f.w ≤ 2199023255552
  w0 : 1 ≤ f.w
  w1 : f.w ≤ maxN
  h0 : 1 ≤ f.h
  h1 : f.h ≤ maxN
  y0 : 0 ≤ f.y
  y1 : f.y + f.h ≤ H
theorem FlOk.mono {H K : Int} {f : Fl} (h : FlOk H f) (hk : H ≤ K) : FlOk K f := ⟨h.side, h.x0, h.x1, h.w0, h.w1, h.h0, h.h1, h.y0, Int.le_trans h.y1 hk⟩
theorem FlOk.near {H : Int} {f : Fl} (h : FlOk H f) (hH : H ≤ maxN) : f.near := by
  obtain ⟨_, h1, h2, h3, h4, h5, h6, h7, h8⟩ := h
  unfold Fl.near NearI farB maxN at *
  omega
structure GsOk (H : Int) (s : Gs) : Prop where
  p0 : 0 ≤ s.pen.1
  p1 : 0 ≤ s.pen.2
  p2 : s.place ≤ H
  fls : ∀ f ∈ s.fls, FlOk H f
theorem GsOk.start : GsOk 0 .start := ⟨Int.le_refl _, Int.le_refl _, Int.le_refl _, fun f hf => by cases hf⟩
theorem GsOk.mono {H K : Int} {s : Gs} (h : GsOk H s) (hk : H ≤ K) : GsOk K s := ⟨h.p0, h.p1, Int.le_trans h.p2 hk, fun f hf => (h.fls f hf).mono hk⟩
theorem GsOk.ends {H : Int} {s : Gs} (h : GsOk H s) : ∀ f ∈ s.fls, f.y + f.h ≤ H := fun f hf => (h.fls f hf).y1
theorem GsOk.nears {H : Int} {s : Gs} (h : GsOk H s) (hH : H ≤ maxN) : ∀ f ∈ s.fls, f.near := fun f hf => (h.fls f hf).near hH
theorem GsOk.h0 {H : Int} {s : Gs} (h : GsOk H s) : 0 ≤ H := by have := h.p0; have := h.p1; have := h.p2; unfold Gs.place at this; omega
def leafH (x : Nd) : Int := if x.kind = 2 then x.line * (x.words.length : Int) else x.h
def evH (L : List Nd) : Ev → Int
  | .begin_ i => match L[i]? with
    | some x => x.sty.top + x.sty.padTop
    | none => 0
  | .end_ i => match L[i]? with
    | some x => x.sty.bottom + x.sty.padBottom
    | none => 0
  | .leaf i => match L[i]? with
    | some x => leafH x
    | none => 0
theorem evH_begin {L : List Nd} {i : Nat} {x : Nd} (hx : L[i]? = some x) : evH L (.begin_ i) = x.sty.top + x.sty.padTop := by
  show (match L[i]? with | some x => x.sty.top + x.sty.padTop | none => 0) = _
  rw [hx]
theorem evH_end {L : List Nd} {i : Nat} {x : Nd} (hx : L[i]? = some x) : evH L (.end_ i) = x.sty.bottom + x.sty.padBottom := by
  show (match L[i]? with | some x => x.sty.bottom + x.sty.padBottom | none => 0) = _
  rw [hx]
theorem evH_leaf {L : List Nd} {i : Nat} {x : Nd} (hx : L[i]? = some x) : evH L (.leaf i) = leafH x := by
  show (match L[i]? with | some x => leafH x | none => 0) = _
  rw [hx]
theorem sty_pos {x : Nd} (h : x.fits) (hk : x.kind = 1) : 0 ≤ x.sty.top ∧ 0 ≤ x.sty.bottom ∧ 0 ≤ x.sty.padTop ∧ 0 ≤ x.sty.padBottom ∧ 0 ≤ x.sty.head := by
  rcases h with ⟨_, hs, _⟩ | ⟨h, _⟩ | ⟨h, _⟩ | ⟨h, _⟩
  · obtain ⟨⟨h1, h2, h3, h4, _⟩, _, h5, _⟩ := hs
    unfold okN at *
    omega
  · omega
  · omega
  · omega
theorem sty_all_pos {x : Nd} (h : x.fits) : 0 ≤ x.sty.top ∧ 0 ≤ x.sty.bottom ∧ 0 ≤ x.sty.padTop ∧ 0 ≤ x.sty.padBottom := by
  by_cases hk : x.kind = 1
  · have := sty_pos h hk; omega
  · rcases h with ⟨h, _⟩ | ⟨_, hs, _⟩ | ⟨_, hs, _⟩ | ⟨_, hs, _⟩
    · exact absurd h hk
    all_goals
      rw [hs]; unfold Sty.none; simp
theorem clearS_ok {H : Int} {s : Gs} (h : GsOk H s) (sides : Int) : 0 ≤ (clearS s.fls sides s.pen).1 ∧ 0 ≤ (clearS s.fls sides s.pen).2 ∧ (clearS s.fls sides s.pen).1 + (clearS s.fls sides s.pen).2 ≤ H ∧ s.place ≤ (clearS s.fls sides s.pen).1 + (clearS s.fls sides s.pen).2 := by
  have h0 := h.p0
  have h1 := h.p1
  have h2 := h.p2
  unfold Gs.place at *
  unfold clearS
  split
  · rename_i hl
    obtain ⟨f, hf, he⟩ := lowest_from hl
    have := h.ends f hf
    unfold clearP
    split
    · simp only
      omega
    · exact ⟨h0, h1, h2, Int.le_refl _⟩
  · exact ⟨h0, h1, h2, Int.le_refl _⟩
theorem enterP_ok {p : Int × Int} {a d H : Int} (h0 : 0 ≤ p.1) (h1 : 0 ≤ p.2) (h2 : p.1 + p.2 ≤ H) (ha : 0 ≤ a) (hd : 0 ≤ d) : 0 ≤ (enterP p a d).1 ∧ 0 ≤ (enterP p a d).2 ∧ (enterP p a d).1 + (enterP p a d).2 ≤ H + (a + d) ∧ p.1 + p.2 ≤ (enterP p a d).1 + (enterP p a d).2 := by
  unfold enterP raiseI
  split <;> split <;> simp only <;> omega
theorem leaveP_ok {p : Int × Int} {a d H : Int} (h0 : 0 ≤ p.1) (h1 : 0 ≤ p.2) (h2 : p.1 + p.2 ≤ H) (ha : 0 ≤ a) (hd : 0 ≤ d) : 0 ≤ (leaveP p a d).1 ∧ 0 ≤ (leaveP p a d).2 ∧ (leaveP p a d).1 + (leaveP p a d).2 ≤ H + (a + d) ∧ p.1 + p.2 ≤ (leaveP p a d).1 + (leaveP p a d).2 := by
  unfold leaveP raiseI
  split <;> split <;> simp only <;> omega
theorem begin_ok {H : Int} {s : Gs} {x : Nd} (h : GsOk H s) (hx : x.fits) : GsOk (H + (x.sty.top + x.sty.padTop)) (beginS x s) ∧ s.place ≤ (beginS x s).place := by
  obtain ⟨t1, t2, t3, t4⟩ := sty_all_pos hx
  obtain ⟨c0, c1, c2, c3⟩ := clearS_ok h x.sty.clear
  obtain ⟨e0, e1, e2, e3⟩ := enterP_ok c0 c1 c2 t1 t3
  exact ⟨⟨e0, e1, e2, fun f hf => (h.fls f hf).mono (by omega)⟩, Int.le_trans c3 e3⟩
theorem end_ok {H : Int} {s : Gs} {x : Nd} (h : GsOk H s) (hx : x.fits) : GsOk (H + (x.sty.bottom + x.sty.padBottom)) (endS x s) ∧ s.place ≤ (endS x s).place := by
  obtain ⟨t1, t2, t3, t4⟩ := sty_all_pos hx
  obtain ⟨e0, e1, e2, e3⟩ := leaveP_ok h.p0 h.p1 h.p2 t2 t4
  exact ⟨⟨e0, e1, e2, fun f hf => (h.fls f hf).mono (by omega)⟩, e3⟩
theorem lns_pen {l : List Fl} {ws : List Int} {sp h a b : Int} (h0 : 0 ≤ h) : ∀ (f i : Nat) (y M : Int) (p : Int × Int), (∀ g ∈ l, g.y + g.h ≤ M) → y ≤ M → 0 ≤ p.1 → 0 ≤ p.2 → p.1 + p.2 = y →
    0 ≤ (penLns h p (lnsF l ws sp h a b f i y)).1 ∧ 0 ≤ (penLns h p (lnsF l ws sp h a b f i y)).2 ∧ y ≤ (penLns h p (lnsF l ws sp h a b f i y)).1 + (penLns h p (lnsF l ws sp h a b f i y)).2 ∧ (penLns h p (lnsF l ws sp h a b f i y)).1 + (penLns h p (lnsF l ws sp h a b f i y)).2 ≤ M + ((lnsF l ws sp h a b f i y).length : Int) * h
  | 0, i, y, M, p, hM, hy, p0, p1, hp => by
    show 0 ≤ p.1 ∧ 0 ≤ p.2 ∧ y ≤ p.1 + p.2 ∧ p.1 + p.2 ≤ M + ((0 : Nat) : Int) * h
    refine ⟨p0, p1, by omega, by simp; omega⟩
  | f + 1, i, y, M, p, hM, hy, p0, p1, hp => by
    unfold lnsF
    by_cases hi : i < ws.length
    · rw [if_pos hi]
      have hy2 : (lineL l ws sp h a b i y).y = seekE l h (wordI ws i) a b y := rfl
      have hge : y ≤ (lineL l ws sp h a b i y).y := by rw [hy2]; exact seekE_ge _
      have hle : (lineL l ws sp h a b i y).y ≤ M := by rw [hy2]; exact seekE_le hM hy
      have ih := lns_pen (l := l) (ws := ws) (sp := sp) (a := a) (b := b) h0 f (lineL l ws sp h a b i y).to_.toNat ((lineL l ws sp h a b i y).y + h) (M + h) ((lineL l ws sp h a b i y).y + h, 0) (fun g hg => by have := hM g hg; omega) (by omega) (by simp only; omega) (Int.le_refl _) (by simp)
      have e : penLns h p (lineL l ws sp h a b i y :: lnsF l ws sp h a b f (lineL l ws sp h a b i y).to_.toNat ((lineL l ws sp h a b i y).y + h)) = penLns h ((lineL l ws sp h a b i y).y + h, 0) (lnsF l ws sp h a b f (lineL l ws sp h a b i y).to_.toNat ((lineL l ws sp h a b i y).y + h)) := rfl
      rw [e]
      obtain ⟨i0, i1, i2, i3⟩ := ih
      refine ⟨i0, i1, by omega, ?_⟩
      rw [List.length_cons, Int.natCast_add, Int.add_mul]
      simp only [Int.natCast_one, Int.one_mul]
      omega
    · rw [if_neg hi]
      show 0 ≤ p.1 ∧ 0 ≤ p.2 ∧ y ≤ p.1 + p.2 ∧ p.1 + p.2 ≤ M + ((0 : Nat) : Int) * h
      refine ⟨p0, p1, by omega, by simp; omega⟩
theorem mul_up {a b : Nat} {h : Int} (hab : a ≤ b) (h0 : 0 ≤ h) : (a : Int) * h ≤ h * (b : Int) := by
  rw [Int.mul_comm]
  exact Int.mul_le_mul_of_nonneg_left (by omega) h0
theorem text_ok {H : Int} {s : Gs} {x : Nd} {rm : Int × Int} {i : Nat} (h : GsOk H s) (hl : 0 ≤ x.line) : GsOk (H + x.line * (x.words.length : Int)) (textS rm i x s) ∧ s.place ≤ (textS rm i x s).place := by
  obtain ⟨i0, i1, i2, i3⟩ := lns_pen (l := s.fls) (ws := x.words) (sp := x.space) (a := rm.1) (b := rm.1 + rm.2) hl (x.words.length - 0) 0 s.place H s.pen h.ends h.p2 h.p0 h.p1 rfl
  have hm := mul_up (lnsL_most (l := s.fls) (ws := x.words) (sp := x.space) (h := x.line) (a := rm.1) (b := rm.1 + rm.2) s.place) hl
  have hn : 0 ≤ x.line * (x.words.length : Int) := Int.mul_nonneg hl (by omega)
  unfold lnsL at hm
  exact ⟨⟨i0, i1, Int.le_trans i3 (by omega), fun f hf => (h.fls f hf).mono (by omega)⟩, i2⟩
theorem box_ok {H : Int} {s : Gs} {x : Nd} {rm : Int × Int} {i : Nat} (h : GsOk H s) (hl : 0 ≤ x.h) : GsOk (H + x.h) (boxS rm i x s) ∧ s.place ≤ boxY rm x s ∧ boxY rm x s ≤ H := by
  have hge : s.place ≤ boxY rm x s := seekE_ge _
  have hle : boxY rm x s ≤ H := seekE_le h.ends h.p2
  have h0 : 0 ≤ s.place := by have := h.p0; have := h.p1; unfold Gs.place; omega
  exact ⟨⟨by show 0 ≤ boxY rm x s + x.h; omega, Int.le_refl _, by show boxY rm x s + x.h + 0 ≤ _; omega, fun f hf => (h.fls f hf).mono (by omega)⟩, hge, hle⟩
theorem fits_place {l : List Fl} {h w a b y : Int} (hab : a ≤ b) (hw : 1 ≤ w) : (fitsF l h w a b y = true → a ≤ (bandL l y h (a, b)).1 ∧ (bandL l y h (a, b)).1 + w ≤ (bandL l y h (a, b)).2 ∧ (bandL l y h (a, b)).2 ≤ b) := by
  intro hf
  obtain ⟨m1, m2⟩ := bandL_mono (y := y) (h := h) l (a, b)
  unfold fitsF lenW at hf
  have := of_decide_eq_true hf
  split at this
  · omega
  · exact ⟨m1, by omega, m2⟩
theorem seekE_end {l : List Fl} {h w a b : Int} : ∀ (k : Nat) (y : Int), cntA l y ≤ k → fitsF l h w a b (seekE l h w a b y) = true ∨ (fitsF l h w a b (seekE l h w a b y) = false ∧ (nextL l (seekE l h w a b y) h a b).2 = false) := by
  intro k
  induction k with
  | zero =>
    intro y hk
    have hv : (nextL l y h a b).2 = false := by
      cases hv : (nextL l y h a b).2 with
      | false => rfl
      | true => have := cnt_next hv; omega
    by_cases hf : fitsF l h w a b y = true
    · rw [seekE_fits hf]; exact .inl hf
    · have hf' : fitsF l h w a b y = false := by simpa using hf
      rw [seekE_none hf' hv]; exact .inr ⟨hf', hv⟩
  | succ k ih =>
    intro y hk
    by_cases hf : fitsF l h w a b y = true
    · rw [seekE_fits hf]; exact .inl hf
    · have hf' : fitsF l h w a b y = false := by simpa using hf
      cases hv : (nextL l y h a b).2 with
      | false => rw [seekE_none hf' hv]; exact .inr ⟨hf', hv⟩
      | true =>
        rw [seekE_next hf' hv]
        exact ih _ (by have := cnt_next hv; omega)
theorem seekE_stands {l : List Fl} {h w a b y : Int} (hab : a ≤ b) (hw : 1 ≤ w) :
    (a ≤ (bandL l (seekE l h w a b y) h (a, b)).1 ∧ (bandL l (seekE l h w a b y) h (a, b)).1 + w ≤ (bandL l (seekE l h w a b y) h (a, b)).2 ∧ (bandL l (seekE l h w a b y) h (a, b)).2 ≤ b) ∨
    (bandL l (seekE l h w a b y) h (a, b) = (a, b) ∧ b - a < w) := by
  rcases seekE_end (l := l) (h := h) (w := w) (a := a) (b := b) _ y (Nat.le_refl _) with hf | ⟨hf, hv⟩
  · exact .inl (fits_place hab hw hf)
  · right
    have hb := next_none_whole hv
    refine ⟨hb, ?_⟩
    unfold fitsF lenW at hf
    rw [hb] at hf
    have := of_decide_eq_false hf
    simp only at this
    split at this <;> omega
theorem spot_stands {l : List Fl} {f : Fl} {y a b : Int} (hab : a ≤ b) (hw : 1 ≤ f.w) (hs : f.side = 1 ∨ f.side = 2) : a ≤ spotX l f y a b ∧ (spotX l f y a b + f.w ≤ b ∨ (spotX l f y a b = a ∧ b - a < f.w)) := by
  unfold spotX
  rw [spotY_seek]
  rcases seekE_stands (l := l) (h := f.h) (w := f.w) (y := startY l y) hab hw with ⟨h1, h2, h3⟩ | ⟨h1, h2⟩
  · split
    · exact ⟨h1, .inl (by omega)⟩
    · exact ⟨by omega, .inl (by omega)⟩
  · rw [h1]
    simp only
    split
    · exact ⟨Int.le_refl _, .inr ⟨rfl, h2⟩⟩
    · exact ⟨by omega, .inr ⟨by omega, h2⟩⟩
theorem startY_bds {l : List Fl} {H : Int} (h : ∀ f ∈ l, FlOk H f) {y : Int} (hy : y ≤ H) : y ≤ startY l y ∧ startY l y ≤ H := by
  unfold startY
  split
  · rename_i hc
    refine ⟨by omega, ?_⟩
    have hne : l ≠ [] := by
      intro e
      subst e
      have := hc.1
      simp [topL] at this
    obtain ⟨g, hg, he⟩ := top_from hne
    have := h g hg
    have := this.y1
    have := (h g hg).h0
    show topF l ≤ H
    omega
  · exact ⟨Int.le_refl _, hy⟩
theorem spotY_bds {l : List Fl} {H : Int} (h : ∀ f ∈ l, FlOk H f) (f : Fl) {y a b : Int} (hy : y ≤ H) : startY l y ≤ spotY l f y a b ∧ spotY l f y a b ≤ H := by
  rw [spotY_seek]
  exact ⟨seekE_ge _, seekE_le (fun g hg => (h g hg).y1) (startY_bds h hy).2⟩
theorem float_ok {H : Int} {s : Gs} {x : Nd} {rm : Int × Int} {i : Nat} (h : GsOk H s) (hr0 : 0 ≤ rm.1) (hr1 : rm.1 ≤ maxX) (hr2 : 1 ≤ rm.2) (hr3 : rm.2 ≤ maxX) (hw0 : 1 ≤ x.w) (hw1 : x.w ≤ maxN) (hh0 : 1 ≤ x.h) (hh1 : x.h ≤ maxN) (hs : x.side = 1 ∨ x.side = 2) :
    GsOk (H + x.h) (floatS rm i x s) := by
  have h0 : 0 ≤ s.place := by have := h.p0; have := h.p1; unfold Gs.place; omega
  refine ⟨h.p0, h.p1, Int.le_trans h.p2 (by omega), fun f hf => ?_⟩
  rcases List.mem_append.1 hf with hf | hf
  · exact (h.fls f hf).mono (by omega)
  · simp only [List.mem_singleton] at hf
    subst hf
    obtain ⟨s1, s2⟩ := spot_stands (l := s.fls) (f := ⟨(i : Int), x.side, (s.ams.length : Int), 0, 0, x.w, x.h⟩) (y := s.place) (a := rm.1) (b := rm.1 + rm.2) (by omega) hw0 hs
    obtain ⟨t1, t2⟩ := startY_bds h.fls h.p2
    obtain ⟨t3, t4⟩ := spotY_bds h.fls ⟨(i : Int), x.side, (s.ams.length : Int), 0, 0, x.w, x.h⟩ (a := rm.1) (b := rm.1 + rm.2) h.p2
    unfold maxX maxN at *
    simp only at s2
    exact ⟨hs, by simp only; omega, by simp only; omega, hw0, hw1, hh0, hh1, by simp only; omega, by simp only; omega⟩
def Clo (L : List Nd) (i e : Nat) : Prop := e ≤ L.length ∧ ∀ (k : Nat) (x : Nd), i ≤ k → k < e → L[k]? = some x → nxt k x ≤ e
theorem Clo.all {L : List Nd} (hn : Nested L) : Clo L 0 L.length := ⟨Nat.le_refl _, fun k x _ _ hx => (nxt_of hn hx).2⟩
theorem Clo.inner {L : List Nd} (hn : Nested L) {i : Nat} {x : Nd} (hx : L[i]? = some x) (hk : x.kind = 1) : Clo L (i + 1) (nxt i x) :=
  ⟨(nxt_of hn hx).2, fun k y h1 h2 hy => nxt_in hn hy hx hk (by omega) h2⟩
theorem Clo.next {L : List Nd} {i e : Nat} {x : Nd} (h : Clo L i e) (hx : L[i]? = some x) : Clo L (nxt i x) e := ⟨h.1, fun k y h1 h2 hy => h.2 k y (by have := nxt_lt i x; omega) h2 hy⟩
theorem Clo.at_ {L : List Nd} {i e : Nat} (h : Clo L i e) (hi : i < e) : ∃ x, L[i]? = some x ∧ nxt i x ≤ e := by
  have hlt : i < L.length := Nat.lt_of_lt_of_le hi h.1
  exact ⟨L[i], List.getElem?_eq_getElem hlt, h.2 i L[i] (Nat.le_refl _) hi (List.getElem?_eq_getElem hlt)⟩
theorem ev_ind {L : List Nd} (hn : Nested L) {P : Nat → Nat → Prop} (h0 : ∀ i e, e ≤ i → P i e)
    (h1 : ∀ (i e : Nat) (x : Nd), i < e → L[i]? = some x → nxt i x ≤ e → (x.kind = 1 → P (i + 1) (nxt i x)) → P (nxt i x) e → P i e) : ∀ (d i e : Nat), e ≤ i + d → Clo L i e → P i e
  | 0, i, e, hd, _ => h0 i e (by omega)
  | d + 1, i, e, hd, hc => by
    by_cases hi : i < e
    · obtain ⟨x, hx, hle⟩ := hc.at_ hi
      have hl := nxt_lt i x
      exact h1 i e x hi hx hle (fun hk => ev_ind hn h0 h1 d (i + 1) (nxt i x) (by omega) (Clo.inner hn hx hk)) (ev_ind hn h0 h1 d (nxt i x) e (by omega) (hc.next hx))
    · exact h0 i e (by omega)
def sumE (L : List Nd) (es : List Ev) : Int := (es.map (evH L)).sum
theorem sumE_nil (L : List Nd) : sumE L [] = 0 := rfl
theorem sumE_cons (L : List Nd) (e : Ev) (es : List Ev) : sumE L (e :: es) = evH L e + sumE L es := by unfold sumE; rw [List.map_cons, List.sum_cons]
theorem sumE_append (L : List Nd) (a b : List Ev) : sumE L (a ++ b) = sumE L a + sumE L b := by unfold sumE; rw [List.map_append, List.sum_append]
theorem evH_pos {L : List Nd} (hf : ∀ y ∈ L, y.fits) : ∀ e : Ev, 0 ≤ evH L e
  | .begin_ i => by
    cases hx : L[i]? with
    | none => show 0 ≤ (match L[i]? with | some x => x.sty.top + x.sty.padTop | none => 0); rw [hx]; exact Int.le_refl _
    | some x =>
      rw [evH_begin hx]
      have := sty_all_pos (hf x (List.mem_of_getElem? hx))
      omega
  | .end_ i => by
    cases hx : L[i]? with
    | none => show 0 ≤ (match L[i]? with | some x => x.sty.bottom + x.sty.padBottom | none => 0); rw [hx]; exact Int.le_refl _
    | some x =>
      rw [evH_end hx]
      have := sty_all_pos (hf x (List.mem_of_getElem? hx))
      omega
  | .leaf i => by
    cases hx : L[i]? with
    | none => show 0 ≤ (match L[i]? with | some x => leafH x | none => 0); rw [hx]; exact Int.le_refl _
    | some x =>
      rw [evH_leaf hx]
      unfold leafH
      rcases hf x (List.mem_of_getElem? hx) with ⟨hk, _, h1, _, _, _, h2, _⟩ | ⟨hk, _, h1, _⟩ | ⟨hk, _, _, _, _, _, h1, _⟩ | ⟨hk, _, _, _, _, _, h1, _⟩
      · rw [if_neg (by omega)]; omega
      · rw [if_pos hk]; have := h1.1; exact Int.mul_nonneg (by omega) (by omega)
      · rw [if_neg (by omega)]; have := h1.1; omega
      · rw [if_neg (by omega)]; have := h1.1; omega
theorem sumE_pos {L : List Nd} (hf : ∀ y ∈ L, y.fits) : ∀ es : List Ev, 0 ≤ sumE L es
  | [] => Int.le_refl _
  | e :: es => by rw [sumE_cons]; have := evH_pos hf e; have := sumE_pos hf es; omega
theorem highN_leaf {x : Nd} (hk : x.kind ≠ 1) : highN x = leafH x := by
  unfold highN leafH
  rw [if_neg hk]
theorem sumE_le {L : List Nd} (hn : Nested L) (hf : ∀ y ∈ L, y.fits) : ∀ (d i e : Nat), e ≤ i + d → Clo L i e → i ≤ e → sumE L (evN L i e) ≤ sumI highN (L.take e) - sumI highN (L.take i) := by
  intro d i e hd hc
  refine ev_ind hn (P := fun i e => i ≤ e → sumE L (evN L i e) ≤ sumI highN (L.take e) - sumI highN (L.take i)) ?_ ?_ d i e hd hc
  · intro i e he hi
    obtain rfl : i = e := by omega
    rw [evN_end (Nat.le_refl _), sumE_nil]
    omega
  · intro i e x hi hx hle hin hnx _
    have hl := nxt_lt i x
    have h2 := hnx hle
    have h3 := sumI_take highN hx
    rw [evN_step hi hx hle, sumE_append]
    by_cases hk : x.kind = 1
    · have h4 := hin hk (by omega)
      unfold ev1
      rw [if_pos hk, sumE_cons, sumE_append, sumE_cons, sumE_nil, evH_begin hx, evH_end hx]
      have h5 : highN x = x.sty.top + x.sty.bottom + x.sty.padTop + x.sty.padBottom + x.sty.head := by unfold highN; rw [if_pos hk]
      have h6 := (sty_pos (hf x (List.mem_of_getElem? hx)) hk).2.2.2.2
      omega
    · unfold ev1
      rw [if_neg hk, sumE_cons, sumE_nil, evH_leaf hx, ← highN_leaf hk]
      rw [nxt_leaf hn hx hk] at h2 ⊢
      omega
theorem sumE_all {L : List Nd} (hn : Nested L) (hf : ∀ y ∈ L, y.fits) : sumE L (evN L 0 L.length) ≤ sumI highN L := by
  have := sumE_le hn hf L.length 0 L.length (by omega) (Clo.all hn) (by omega)
  rw [List.take_length] at this
  simpa [sumI_nil] using this
theorem ev_ok {L : List Nd} (hf : ∀ y ∈ L, y.fits) {w H : Int} (h1 : 1 ≤ w) (h2 : w ≤ maxX) {s : Gs} (h : GsOk H s) : ∀ e : Ev, GsOk (H + evH L e) (evS L w s e)
  | .begin_ i => by
    cases hx : L[i]? with
    | none =>
      show GsOk (H + (match L[i]? with | some x => x.sty.top + x.sty.padTop | none => 0)) (match L[i]? with | some x => beginS x s | none => s)
      rw [hx]; simpa using h
    | some x => rw [evH_begin hx, evS_begin hx]; exact (begin_ok h (hf x (List.mem_of_getElem? hx))).1
  | .end_ i => by
    cases hx : L[i]? with
    | none =>
      show GsOk (H + (match L[i]? with | some x => x.sty.bottom + x.sty.padBottom | none => 0)) (match L[i]? with | some x => endS x s | none => s)
      rw [hx]; simpa using h
    | some x => rw [evH_end hx, evS_end hx]; exact (end_ok h (hf x (List.mem_of_getElem? hx))).1
  | .leaf i => by
    cases hx : L[i]? with
    | none =>
      show GsOk (H + (match L[i]? with | some x => leafH x | none => 0)) (match L[i]? with | some x => leafS (roomP L w i) i x s | none => s)
      rw [hx]; simpa using h
    | some x =>
      rw [evH_leaf hx, evS_leaf hx]
      obtain ⟨r0, r1, r2, r3⟩ := room_bd hf h1 h2 i
      unfold leafH leafS
      rcases hf x (List.mem_of_getElem? hx) with ⟨hk, _, _, _, _, _, hh, _⟩ | ⟨hk, _, hl, _⟩ | ⟨hk, _, _, _, _, hw, hh, _⟩ | ⟨hk, _, _, _, _, hw, hh, hs⟩
      · rw [if_neg (by omega), if_neg (by omega), if_neg (by omega), if_neg (by omega), hh]; simpa using h
      · rw [if_pos hk, if_pos hk]; have := hl.1; exact (text_ok h (by omega)).1
      · rw [if_neg (by omega), if_neg (by omega), if_pos hk]; have := hh.1; exact (box_ok h (by omega)).1
      · rw [if_neg (by omega), if_neg (by omega), if_neg (by omega), if_pos hk]
        exact float_ok h r0 r1 r2 (by omega) hw.1 hw.2 hh.1 hh.2 (by have := hs.1; have := hs.2; omega)
theorem run_ok {L : List Nd} (hf : ∀ y ∈ L, y.fits) {w : Int} (h1 : 1 ≤ w) (h2 : w ≤ maxX) : ∀ (es : List Ev) {H : Int} {s : Gs}, GsOk H s → GsOk (H + sumE L es) (runS L w s es)
  | [], H, s, h => by rw [sumE_nil]; simpa [runS] using h
  | e :: es, H, s, h => by
    rw [sumE_cons, ← Int.add_assoc]
    exact run_ok hf h1 h2 es (ev_ok hf h1 h2 h e)
theorem evS_lenK {K : Nat} {L : List Nd} {w : Int} (hw : ∀ y ∈ L, y.words.length ≤ K) (hK : 1 ≤ K) (s : Gs) : ∀ e : Ev, (evS L w s e).ams.length ≤ s.ams.length + K ∧ (evS L w s e).fls.length ≤ s.fls.length + 1 ∧ s.ams.length ≤ (evS L w s e).ams.length ∧ s.fls.length ≤ (evS L w s e).fls.length
  | .begin_ i => by
    cases hx : L[i]? with
    | none => rw [show evS L w s (.begin_ i) = s by show (match L[i]? with | some x => beginS x s | none => s) = _; rw [hx]]; omega
    | some x => rw [evS_begin hx]; unfold beginS; simp only; omega
  | .end_ i => by
    cases hx : L[i]? with
    | none => rw [show evS L w s (.end_ i) = s by show (match L[i]? with | some x => endS x s | none => s) = _; rw [hx]]; omega
    | some x => rw [evS_end hx]; unfold endS; simp only; omega
  | .leaf i => by
    cases hx : L[i]? with
    | none => rw [show evS L w s (.leaf i) = s by show (match L[i]? with | some x => leafS (roomP L w i) i x s | none => s) = _; rw [hx]]; omega
    | some x =>
      rw [evS_leaf hx]
      have hb := hw x (List.mem_of_getElem? hx)
      have hm := lnsL_most (l := s.fls) (ws := x.words) (sp := x.space) (h := x.line) (a := (roomP L w i).1) (b := (roomP L w i).1 + (roomP L w i).2) s.place
      unfold leafS
      split
      · unfold textS; simp only [List.length_append, List.length_map]; omega
      · split
        · unfold boxS; simp only [List.length_append, List.length_cons, List.length_nil]; omega
        · split
          · unfold floatS putL; simp only [List.length_append, List.length_cons, List.length_nil]; omega
          · omega
theorem runS_lenK {K : Nat} {L : List Nd} {w : Int} (hw : ∀ y ∈ L, y.words.length ≤ K) (hK : 1 ≤ K) : ∀ (es : List Ev) (s : Gs), (runS L w s es).ams.length ≤ s.ams.length + K * es.length ∧ (runS L w s es).fls.length ≤ s.fls.length + es.length ∧ s.ams.length ≤ (runS L w s es).ams.length ∧ s.fls.length ≤ (runS L w s es).fls.length
  | [], s => by show s.ams.length ≤ _ ∧ s.fls.length ≤ _ ∧ _ ≤ s.ams.length ∧ _ ≤ s.fls.length; omega
  | e :: es, s => by
    have h1 := evS_lenK (w := w) hw hK s e
    have h2 := runS_lenK (w := w) hw hK es (evS L w s e)
    have e1 : runS L w s (e :: es) = runS L w (evS L w s e) es := rfl
    rw [e1, List.length_cons, Nat.mul_succ]
    omega
theorem runS_len {L : List Nd} {w : Int} (hw : ∀ y ∈ L, y.words.length ≤ 60) (es : List Ev) (s : Gs) : (runS L w s es).ams.length ≤ s.ams.length + 60 * es.length ∧ (runS L w s es).fls.length ≤ s.fls.length + es.length ∧ s.ams.length ≤ (runS L w s es).ams.length ∧ s.fls.length ≤ (runS L w s es).fls.length := runS_lenK hw (by decide) es s
theorem runS_len2 {L : List Nd} {w : Int} (hw : ∀ y ∈ L, y.words.length ≤ 2000) (es : List Ev) (s : Gs) : (runS L w s es).ams.length ≤ s.ams.length + 2000 * es.length ∧ (runS L w s es).fls.length ≤ s.fls.length + es.length ∧ s.ams.length ≤ (runS L w s es).ams.length ∧ s.fls.length ≤ (runS L w s es).fls.length := runS_lenK hw (by decide) es s
theorem evN_len {L : List Nd} (hn : Nested L) : ∀ (d i e : Nat), e ≤ i + d → Clo L i e → (evN L i e).length ≤ 2 * (e - i) := by
  intro d i e hd hc
  refine ev_ind hn (P := fun i e => (evN L i e).length ≤ 2 * (e - i)) ?_ ?_ d i e hd hc
  · intro i e he
    rw [evN_end he]; simp
  · intro i e x hi hx hle hin hnx
    have hl := nxt_lt i x
    rw [evN_step hi hx hle, List.length_append]
    by_cases hk : x.kind = 1
    · have h4 := hin hk
      unfold ev1
      rw [if_pos hk]
      simp only [List.length_cons, List.length_append, List.length_nil]
      omega
    · unfold ev1
      rw [if_neg hk]
      simp only [List.length_cons, List.length_nil]
      omega
end Go.Proofs.YtipmdhfinlkceaaGreat
namespace Go.Proofs.YtipmdhfinlkceaaGreat
open Go Go.RowKit
structure FlsAt (w : World) (g : Nat) (l : List Fl) : Prop where
  lt : g < w.heap.size
  cell : ∀ (i : Nat) (x : Fl), l[i]? = some x → ∀ (j : Nat) (v : Value), (encFl x)[j]? = some v → w.cell? ⟨g, i * 7 + j, none⟩ = some v
  free : ∀ o, o < l.length * 7 → w.frozen? ⟨g, o, none⟩ = false
theorem FlsAt.of_owns {w : World} {B : Nat} {e : TypeId} {A : Option Addr} {n c : Nat} {l : List Fl} (h : w.ownsRow B e 7 (.slice A n c) n (l.flatMap encFl)) (hn : 0 < n) : ∃ g, A = some ⟨g, 0, none⟩ ∧ B ≤ g ∧ FlsAt w g l := by
  have hr := ownsRow_rows encFl_len (by decide) h
  rcases h.2 with ⟨h1, h2⟩ | ⟨g, cap, cur, h1, h2, h3, h4⟩
  · omega
  · injection h1 with h1
    subst h1
    refine ⟨g, rfl, h2, (Array.getElem?_eq_some_iff.1 h3).1, fun i x hx j v hv => ?_, fun o ho => ?_⟩
    · obtain ⟨b, off, e1, _, hc⟩ := hr.2.2 hn
      injection e1 with e1
      injection e1 with e2 e3
      subst e2 e3
      have := hc i x hx j v hv
      rw [Nat.zero_add] at this
      exact this
    · simp [World.frozen?, h3]
theorem FlsAt.below {w w' : World} {g : Nat} {l : List Fl} (h : FlsAt w g l) (hb : Below w.heap.size w w') : FlsAt w' g l :=
  ⟨Nat.lt_of_lt_of_le h.lt hb.size, fun i x hx j v hv => (below_cell hb h.lt).trans (h.cell i x hx j v hv), fun o ho => (hb.frozen (p := ⟨g, o, none⟩) h.lt).trans (h.free o ho)⟩
theorem FlsAt.other {w : World} {g k j : Nat} {l : List Fl} (h : FlsAt w g l) (hk : k ≠ g) (v : Value) : FlsAt (w.setCell ⟨k, j, none⟩ v) g l :=
  ⟨by simpa using h.lt, fun i x hx j' v' hv => by rw [World.cell?_setCell_other _ _ _ _ (fun e => hk (by injection e))]; exact h.cell i x hx j' v' hv, fun o ho => by rw [World.frozen?_setCell]; exact h.free o ho⟩
theorem FlsAt.anchor {w : World} {g k : Nat} {l : List Fl} {x : Fl} (h : FlsAt w g l) (hx : l[k]? = some x) (a : Int) : FlsAt (w.setCell ⟨g, k * 7 + 2, none⟩ (.int .i64 a)) g (l.set k { x with anchor := a }) := by
  have hk : k < l.length := (List.getElem?_eq_some_iff.1 hx).1
  refine ⟨by simpa using h.lt, fun i y hy j v hv => ?_, fun o ho => by rw [World.frozen?_setCell]; exact h.free o (by simpa using ho)⟩
  have hj : j < 7 := by have := (List.getElem?_eq_some_iff.1 hv).1; rw [encFl_len] at this; exact this
  by_cases hik : k = i
  · subst hik
    rw [List.getElem?_set_self hk] at hy
    injection hy with hy
    subst hy
    by_cases hj2 : j = 2
    · subst hj2
      simp [encFl] at hv
      subst hv
      exact World.cell?_setCell_same _ _ _ (h.cell k x hx 2 _ rfl)
    · rw [World.cell?_setCell_other _ _ _ _ (fun e => hj2 (by injection e with _ e; omega))]
      refine h.cell k x hx j v ?_
      match j, hj2 with
      | 0, _ => exact hv
      | 1, _ => exact hv
      | 3, _ => exact hv
      | 4, _ => exact hv
      | 5, _ => exact hv
      | 6, _ => exact hv
      | j + 7, _ => omega
  · rw [List.getElem?_set_ne hik] at hy
    rw [World.cell?_setCell_other _ _ _ _ (fun e => hik (by injection e with _ e; omega))]
    exact h.cell i y hy j v hv
theorem FlsAt.rows {w : World} {g n : Nat} {l : List Fl} (h : FlsAt w g l) (hn : l.length = n) (hm : n ≤ 10000) : Rows 7 encFl w (some ⟨g, 0, none⟩) n l :=
  ⟨hn, by omega, fun _ => ⟨g, 0, rfl, h.lt, fun i x hx j v hv => by rw [Nat.zero_add]; exact h.cell i x hx j v hv⟩⟩
def anchTo (a : Int) (l : List Fl) (k : Nat) : List Fl := (l.take k).map (anchF a) ++ l.drop k
theorem anchTo_zero (a : Int) (l : List Fl) : anchTo a l 0 = l := by unfold anchTo; simp
theorem anchTo_all {a : Int} {l : List Fl} {k : Nat} (h : l.length ≤ k) : anchTo a l k = l.map (anchF a) := by
  unfold anchTo
  rw [List.take_of_length_le h, List.drop_eq_nil_of_le h, List.append_nil]
theorem anchTo_len (a : Int) (l : List Fl) (k : Nat) : (anchTo a l k).length = l.length := by
  unfold anchTo
  rw [List.length_append, List.length_map, List.length_take, List.length_drop]
  omega
theorem anchTo_at {a : Int} {l : List Fl} {k : Nat} {x : Fl} (hx : l[k]? = some x) : (anchTo a l k)[k]? = some x := by
  have hk : k < l.length := (List.getElem?_eq_some_iff.1 hx).1
  unfold anchTo
  rw [List.getElem?_append_right (by rw [List.length_map, List.length_take]; omega), List.length_map, List.length_take, List.getElem?_drop]
  rw [show k + (k - min k l.length) = k by omega]
  exact hx
theorem anchTo_step {a : Int} {l : List Fl} {k : Nat} {x : Fl} (hx : l[k]? = some x) : anchTo a l (k + 1) = (anchTo a l k).set k (anchF a x) := by
  have hk : k < l.length := (List.getElem?_eq_some_iff.1 hx).1
  have e : l.drop k = x :: l.drop (k + 1) := by
    rw [List.drop_eq_getElem_cons hk]
    congr 1
    rw [List.getElem?_eq_getElem hk] at hx
    injection hx
  unfold anchTo
  rw [e, List.set_append_right _ _ (by rw [List.length_map, List.length_take]; omega), take_one hx, List.map_append, List.length_map, List.length_take]
  rw [show k - min k l.length = 0 by omega]
  simp
theorem anchTo_same {a : Int} {l : List Fl} {k : Nat} {x : Fl} (hx : l[k]? = some x) (h : anchF a x = x) : anchTo a l (k + 1) = anchTo a l k := by
  rw [anchTo_step hx, h]
  have hk := anchTo_at (a := a) hx
  have hlt : k < (anchTo a l k).length := (List.getElem?_eq_some_iff.1 hk).1
  rw [List.getElem?_eq_getElem hlt] at hk
  injection hk with hk
  conv => lhs; rw [← hk]
  exact List.set_getElem_self hlt
def highTo (s : Gs) (k : Nat) : Int := (s.fls.take k).foldl (fun h f => max h (f.y + f.h)) s.place
theorem highTo_zero (s : Gs) : highTo s 0 = s.place := by unfold highTo; simp
theorem highTo_all (s : Gs) : highTo s s.fls.length = highS s := by unfold highTo highS; rw [List.take_length]
theorem highTo_step {s : Gs} {k : Nat} {x : Fl} (hx : s.fls[k]? = some x) : highTo s (k + 1) = max (highTo s k) (x.y + x.h) := by
  unfold highTo
  rw [take_one hx, List.foldl_append]
  rfl
end Go.Proofs.YtipmdhfinlkceaaGreat
namespace Go.Proofs.YtipmdhfinlkceaaGreat
open Go
def leavesE : List Ev → List Nat
  | [] => []
  | .leaf i :: es => i :: leavesE es
  | .begin_ _ :: es => leavesE es
  | .end_ _ :: es => leavesE es
theorem leavesE_append : ∀ (a b : List Ev), leavesE (a ++ b) = leavesE a ++ leavesE b
  | [], b => rfl
  | .leaf i :: es, b => by show i :: leavesE (es ++ b) = i :: leavesE es ++ leavesE b; rw [leavesE_append es b]; rfl
  | .begin_ i :: es, b => leavesE_append es b
  | .end_ i :: es, b => leavesE_append es b
def leafB (L : List Nd) (i : Nat) : Bool := match L[i]? with
  | some x => !decide (x.kind = 1)
  | none => false
def leavesN (L : List Nd) (i e : Nat) : List Nat := (List.range' i (e - i)).filter (leafB L)
theorem leavesN_end {L : List Nd} {i e : Nat} (h : e ≤ i) : leavesN L i e = [] := by unfold leavesN; rw [show e - i = 0 by omega]; rfl
theorem leavesN_split {L : List Nd} {i j e : Nat} (h1 : i ≤ j) (h2 : j ≤ e) : leavesN L i e = leavesN L i j ++ leavesN L j e := by
  unfold leavesN
  rw [← List.filter_append]
  congr 1
  have : e - i = (j - i) + (e - j) := by omega
  rw [this, ← List.range'_append_1]
  rw [show i + (j - i) = j by omega]
theorem leavesN_one {L : List Nd} {i : Nat} {x : Nd} (hx : L[i]? = some x) : leavesN L i (i + 1) = if x.kind = 1 then [] else [i] := by
  unfold leavesN
  rw [show i + 1 - i = 1 by omega]
  simp only [List.range'_one, List.filter_cons, List.filter_nil]
  unfold leafB
  rw [hx]
  by_cases hk : x.kind = 1 <;> simp [hk]
theorem leaves_ev {L : List Nd} (hn : Nested L) : ∀ (d i e : Nat), e ≤ i + d → Clo L i e → leavesE (evN L i e) = leavesN L i e := by
  intro d i e hd hc
  refine ev_ind hn (P := fun i e => leavesE (evN L i e) = leavesN L i e) ?_ ?_ d i e hd hc
  · intro i e he
    rw [evN_end he, leavesN_end he]
    rfl
  · intro i e x hi hx hle hin hnx
    have hl := nxt_lt i x
    rw [evN_step hi hx hle, leavesE_append, hnx, leavesN_split (show i ≤ nxt i x by omega) hle]
    congr 1
    by_cases hk : x.kind = 1
    · rw [leavesN_split (show i ≤ i + 1 by omega) (show i + 1 ≤ nxt i x by omega), leavesN_one hx, if_pos hk, List.nil_append, ← hin hk]
      unfold ev1
      rw [if_pos hk]
      show leavesE (evN L (i + 1) (nxt i x) ++ [.end_ i]) = _
      rw [leavesE_append]
      show leavesE _ ++ [] = _
      rw [List.append_nil]
    · rw [nxt_leaf hn hx hk, leavesN_one hx, if_neg hk]
      unfold ev1
      rw [if_neg hk]
      rfl
theorem leaves_all {L : List Nd} (hn : Nested L) : leavesE (evN L 0 L.length) = leavesN L 0 L.length := leaves_ev hn L.length 0 L.length (by omega) (Clo.all hn)
theorem leaf_next : ∀ {es : List Ev} {j : Nat} {js : List Nat}, leavesE es = j :: js → ∃ mid post, es = mid ++ .leaf j :: post ∧ leavesE mid = [] ∧ leavesE post = js
  | [], j, js, h => by cases h
  | .leaf i :: es, j, js, h => by
    injection h with h1 h2
    subst h1
    exact ⟨[], es, rfl, rfl, h2⟩
  | .begin_ i :: es, j, js, h => by
    obtain ⟨mid, post, e1, e2, e3⟩ := leaf_next (es := es) h
    exact ⟨.begin_ i :: mid, post, by rw [e1]; rfl, e2, e3⟩
  | .end_ i :: es, j, js, h => by
    obtain ⟨mid, post, e1, e2, e3⟩ := leaf_next (es := es) h
    exact ⟨.end_ i :: mid, post, by rw [e1]; rfl, e2, e3⟩
theorem leavesN_cons {L : List Nd} {i : Nat} {x : Nd} (hx : L[i]? = some x) : leavesN L i L.length = (if x.kind = 1 then [] else [i]) ++ leavesN L (i + 1) L.length := by
  have hi : i < L.length := (List.getElem?_eq_some_iff.1 hx).1
  rw [leavesN_split (show i ≤ i + 1 by omega) (show i + 1 ≤ L.length by omega), leavesN_one hx]
structure Grows (s t : Gs) : Prop where
  ams : ∃ l, t.ams = s.ams ++ l
  fls : ∃ l, t.fls = s.fls ++ l
  place : s.place ≤ t.place
theorem Grows.refl (s : Gs) : Grows s s := ⟨⟨[], by simp⟩, ⟨[], by simp⟩, Int.le_refl _⟩
theorem Grows.trans {s t u : Gs} (h : Grows s t) (k : Grows t u) : Grows s u := by
  obtain ⟨l1, e1⟩ := h.ams
  obtain ⟨l2, e2⟩ := k.ams
  obtain ⟨m1, f1⟩ := h.fls
  obtain ⟨m2, f2⟩ := k.fls
  exact ⟨⟨l1 ++ l2, by rw [e2, e1, List.append_assoc]⟩, ⟨m1 ++ m2, by rw [f2, f1, List.append_assoc]⟩, Int.le_trans h.place k.place⟩
theorem ev_grows {L : List Nd} (hf : ∀ y ∈ L, y.fits) {w H : Int} {s : Gs} (h : GsOk H s) : ∀ e : Ev, Grows s (evS L w s e)
  | .begin_ i => by
    cases hx : L[i]? with
    | none => rw [show evS L w s (.begin_ i) = s by show (match L[i]? with | some x => beginS x s | none => s) = _; rw [hx]]; exact Grows.refl s
    | some x => rw [evS_begin hx]; exact ⟨⟨[], by simp [beginS]⟩, ⟨[], by simp [beginS]⟩, (begin_ok h (hf x (List.mem_of_getElem? hx))).2⟩
  | .end_ i => by
    cases hx : L[i]? with
    | none => rw [show evS L w s (.end_ i) = s by show (match L[i]? with | some x => endS x s | none => s) = _; rw [hx]]; exact Grows.refl s
    | some x => rw [evS_end hx]; exact ⟨⟨[], by simp [endS]⟩, ⟨[], by simp [endS]⟩, (end_ok h (hf x (List.mem_of_getElem? hx))).2⟩
  | .leaf i => by
    cases hx : L[i]? with
    | none => rw [show evS L w s (.leaf i) = s by show (match L[i]? with | some x => leafS (roomP L w i) i x s | none => s) = _; rw [hx]]; exact Grows.refl s
    | some x =>
      rw [evS_leaf hx]
      unfold leafS
      rcases hf x (List.mem_of_getElem? hx) with ⟨hk, _⟩ | ⟨hk, _, hl, _⟩ | ⟨hk, _, _, _, _, hw, hh, _⟩ | ⟨hk, _⟩
      · rw [if_neg (by omega), if_neg (by omega), if_neg (by omega)]; exact Grows.refl s
      · rw [if_pos hk]
        exact ⟨⟨_, rfl⟩, ⟨[], by simp [textS]⟩, (text_ok h (by have := hl.1; omega)).2⟩
      · rw [if_neg (by omega), if_pos hk]
        have hb := box_ok (rm := roomP L w i) (i := i) h (show 0 ≤ x.h by have := hh.1; omega)
        exact ⟨⟨_, rfl⟩, ⟨[], by simp [boxS]⟩, by show s.place ≤ boxY (roomP L w i) x s + x.h + 0; have := hh.1; omega⟩
      · rw [if_neg (by omega), if_neg (by omega), if_pos hk]
        exact ⟨⟨[], by simp [floatS]⟩, ⟨_, rfl⟩, Int.le_refl _⟩
theorem run_grows {L : List Nd} (hf : ∀ y ∈ L, y.fits) {w : Int} (h1 : 1 ≤ w) (h2 : w ≤ maxX) : ∀ (es : List Ev) {H : Int} {s : Gs}, GsOk H s → Grows s (runS L w s es)
  | [], H, s, h => Grows.refl s
  | e :: es, H, s, h => (ev_grows hf h e).trans (run_grows hf h1 h2 es (ev_ok hf h1 h2 h e))
theorem run_mid {L : List Nd} {w : Int} : ∀ (es : List Ev) (s : Gs), leavesE es = [] → (runS L w s es).ams = s.ams ∧ (runS L w s es).fls = s.fls
  | [], s, _ => ⟨rfl, rfl⟩
  | .leaf i :: es, s, h => by cases h
  | .begin_ i :: es, s, h => by
    have ih := run_mid (L := L) (w := w) es (evS L w s (.begin_ i)) h
    have e1 : (evS L w s (.begin_ i)).ams = s.ams ∧ (evS L w s (.begin_ i)).fls = s.fls := by
      cases hx : L[i]? with
      | none => rw [show evS L w s (.begin_ i) = s by show (match L[i]? with | some x => beginS x s | none => s) = _; rw [hx]]; exact ⟨rfl, rfl⟩
      | some x => rw [evS_begin hx]; exact ⟨rfl, rfl⟩
    exact ⟨ih.1.trans e1.1, ih.2.trans e1.2⟩
  | .end_ i :: es, s, h => by
    have ih := run_mid (L := L) (w := w) es (evS L w s (.end_ i)) h
    have e1 : (evS L w s (.end_ i)).ams = s.ams ∧ (evS L w s (.end_ i)).fls = s.fls := by
      cases hx : L[i]? with
      | none => rw [show evS L w s (.end_ i) = s by show (match L[i]? with | some x => endS x s | none => s) = _; rw [hx]]; exact ⟨rfl, rfl⟩
      | some x => rw [evS_end hx]; exact ⟨rfl, rfl⟩
    exact ⟨ih.1.trans e1.1, ih.2.trans e1.2⟩
structure Upto (L : List Nd) (w : Int) (i : Nat) (s : Gs) : Prop where
  ex : ∃ pre post, evN L 0 L.length = pre ++ post ∧ s = runS L w .start pre ∧ leavesE post = leavesN L i L.length
theorem Upto.zero {L : List Nd} (hn : Nested L) (w : Int) : Upto L w 0 .start := ⟨[], evN L 0 L.length, rfl, rfl, leaves_all hn⟩
theorem Upto.block {L : List Nd} {w : Int} {i : Nat} {s : Gs} {x : Nd} (h : Upto L w i s) (hx : L[i]? = some x) (hk : x.kind = 1) : Upto L w (i + 1) s := by
  obtain ⟨pre, post, h1, h2, h3⟩ := h.ex
  rw [leavesN_cons hx, if_pos hk, List.nil_append] at h3
  exact ⟨pre, post, h1, h2, h3⟩
theorem Upto.leaf {L : List Nd} (hf : ∀ y ∈ L, y.fits) {w : Int} (w1 : 1 ≤ w) (w2 : w ≤ maxX) {i : Nat} {s : Gs} {x : Nd} (h : Upto L w i s) (hx : L[i]? = some x) (hk : x.kind ≠ 1) :
    ∃ t, t.ams = s.ams ∧ t.fls = s.fls ∧ s.place ≤ t.place ∧ (∃ H, GsOk H t ∧ H ≤ sumE L (evN L 0 L.length)) ∧ Upto L w (i + 1) (leafS (roomP L w i) i x t) := by
  obtain ⟨pre, post, h1, h2, h3⟩ := h.ex
  rw [leavesN_cons hx, if_neg hk] at h3
  obtain ⟨mid, post', e1, e2, e3⟩ := leaf_next h3
  have hok := run_ok hf w1 w2 pre (w := w) GsOk.start
  have hg := run_grows hf w1 w2 mid hok
  have hm := run_mid (L := L) (w := w) mid (runS L w .start pre) e2
  refine ⟨runS L w s mid, by rw [h2]; exact hm.1, by rw [h2]; exact hm.2, by rw [h2]; exact hg.place, ⟨_, by rw [h2]; exact run_ok hf w1 w2 mid hok, ?_⟩, ⟨pre ++ mid ++ [.leaf i], post', ?_, ?_, e3⟩⟩
  · rw [h1, e1, sumE_append, sumE_append]
    have := sumE_pos hf (.leaf i :: post')
    omega
  · rw [h1, e1]; simp
  · rw [runS_append, runS_append, h2]
    show _ = evS L w (runS L w (runS L w .start pre) mid) (.leaf i)
    rw [evS_leaf hx]
theorem Upto.end_ {L : List Nd} {w : Int} {s : Gs} (h : Upto L w L.length s) : (galS L w).ams = s.ams ∧ (galS L w).fls = s.fls := by
  obtain ⟨pre, post, h1, h2, h3⟩ := h.ex
  rw [leavesN_end (Nat.le_refl _)] at h3
  unfold galS
  rw [h1, runS_append, h2]
  exact run_mid post _ h3
theorem Upto.ok {L : List Nd} (hf : ∀ y ∈ L, y.fits) {w : Int} (w1 : 1 ≤ w) (w2 : w ≤ maxX) {i : Nat} {s : Gs} (h : Upto L w i s) : ∃ H, GsOk H s ∧ H ≤ sumE L (evN L 0 L.length) := by
  obtain ⟨pre, post, h1, h2, h3⟩ := h.ex
  refine ⟨0 + sumE L pre, by rw [h2]; exact run_ok hf w1 w2 pre GsOk.start, ?_⟩
  rw [h1, sumE_append]
  have := sumE_pos hf post
  omega
theorem rising_pw {l : List Am} (h : l.Pairwise fun x y => x.node ≤ y.node) : Rising l := by
  intro i j x y hij hx hy
  rcases Nat.lt_or_ge i j with h1 | h1
  · obtain ⟨hi, rfl⟩ := List.getElem?_eq_some_iff.1 hx
    obtain ⟨hj, rfl⟩ := List.getElem?_eq_some_iff.1 hy
    exact List.pairwise_iff_getElem.1 h i j hi hj h1
  · obtain rfl : i = j := by omega
    rw [hx] at hy
    injection hy with hy
    subst hy
    exact Int.le_refl _
theorem pw_const {i : Int} {r : List Am} (h : ∀ y ∈ r, y.node = i) : r.Pairwise fun x y => x.node ≤ y.node := by
  induction r with
  | nil => exact List.Pairwise.nil
  | cons a r ih => exact List.Pairwise.cons (fun b hb => by rw [h a (by simp), h b (by simp [hb])]; exact Int.le_refl _) (ih fun y hy => h y (by simp [hy]))
structure AmOk (L : List Nd) (i : Nat) (l : List Am) : Prop where
  nodes : ∀ x ∈ l, ∃ (j : Nat) (y : Nd), x.node = (j : Int) ∧ j < i ∧ L[j]? = some y ∧ y.kind ≠ 1
  rise : l.Pairwise fun x y => x.node ≤ y.node
theorem AmOk.step {L : List Nd} {i : Nat} {l : List Am} (h : AmOk L i l) : AmOk L (i + 1) l :=
  ⟨fun x hx => by obtain ⟨j, y, h1, h2, h3, h4⟩ := h.nodes x hx; exact ⟨j, y, h1, by omega, h3, h4⟩, h.rise⟩
theorem AmOk.append {L : List Nd} {i : Nat} {l : List Am} (h : AmOk L i l) {x : Nd} (hx : L[i]? = some x) (hk : x.kind ≠ 1) {r : List Am} (hr : ∀ y ∈ r, y.node = (i : Int)) : AmOk L (i + 1) (l ++ r) :=
  ⟨fun y hy => by
    rcases List.mem_append.1 hy with h1 | h1
    · exact h.step.nodes y h1
    · exact ⟨i, x, hr y h1, by omega, hx, hk⟩, List.pairwise_append.2 ⟨h.rise, pw_const hr, fun a ha b hb => by
    obtain ⟨j, _, h1, h2, _⟩ := h.nodes a ha
    rw [h1, hr b hb]
    omega⟩⟩
theorem leaf_ams (rm : Int × Int) (i : Nat) (x : Nd) (s : Gs) : ∃ r, (leafS rm i x s).ams = s.ams ++ r ∧ ∀ y ∈ r, y.node = (i : Int) := by
  unfold leafS
  split
  · exact ⟨_, rfl, fun y hy => by obtain ⟨z, _, rfl⟩ := List.mem_map.1 hy; rfl⟩
  · split
    · exact ⟨_, rfl, fun y hy => by rw [List.mem_singleton.1 hy]⟩
    · split
      · exact ⟨[], by simp [floatS], fun y hy => by cases hy⟩
      · exact ⟨[], by simp, fun y hy => by cases hy⟩
theorem gal_upto {L : List Nd} (hd : IsDoc L) {w : Int} (w1 : 1 ≤ w) (w2 : w ≤ maxX) : ∀ i, i ≤ L.length → ∃ s, Upto L w i s ∧ AmOk L i s.ams
  | 0, _ => ⟨.start, Upto.zero hd.2.nested w, ⟨fun x hx => (by cases hx), List.Pairwise.nil⟩⟩
  | i + 1, hi => by
    obtain ⟨s, hu, ha⟩ := gal_upto hd w1 w2 i (by omega)
    have hx : L[i]? = some L[i] := List.getElem?_eq_getElem (by omega)
    by_cases hk : L[i].kind = 1
    · exact ⟨s, hu.block hx hk, ha.step⟩
    · obtain ⟨t, h1, _, _, _, hu2⟩ := hu.leaf hd.1 w1 w2 hx hk
      obtain ⟨r, er, hr⟩ := leaf_ams (roomP L w i) i L[i] t
      exact ⟨_, hu2, by rw [er, h1]; exact ha.append hx hk hr⟩
theorem gal_ams {L : List Nd} (hd : IsDoc L) {w : Int} (w1 : 1 ≤ w) (w2 : w ≤ maxX) : AmOk L L.length (galS L w).ams := by
  obtain ⟨s, hu, ha⟩ := gal_upto hd w1 w2 L.length (Nat.le_refl _)
  rw [hu.end_.1]
  exact ha
theorem cutA_lt {l : List Am} (hr : Rising l) {x : Int} {k : Nat} {y : Am} (hk : l[k]? = some y) : k < cutA l x ↔ y.node < x := by
  obtain ⟨h1, h2, h3⟩ := cutA_at hr x
  refine ⟨fun h => h2 k y h hk, fun h => ?_⟩
  rcases Nat.lt_or_ge k (cutA l x) with h4 | h4
  · exact h4
  · have := h3 k y h4 hk
    omega
theorem cutA_mono {l : List Am} (hr : Rising l) {x y : Int} (h : x ≤ y) : cutA l x ≤ cutA l y := by
  rcases Nat.lt_or_ge (cutA l y) (cutA l x) with h4 | h4
  · have hlt : cutA l y < l.length := Nat.lt_of_lt_of_le h4 (cutA_le l x)
    have h5 := (cutA_lt hr (List.getElem?_eq_getElem hlt)).1 h4
    have h6 := (cutA_lt hr (x := y) (List.getElem?_eq_getElem hlt)).2 (by omega)
    omega
  · exact h4
theorem cutA_eq {l : List Am} (hr : Rising l) {x y : Int} (h : x ≤ y) (hno : ∀ z ∈ l, ¬ (x ≤ z.node ∧ z.node < y)) : cutA l x = cutA l y := by
  have h1 := cutA_mono hr h
  rcases Nat.lt_or_ge (cutA l x) (cutA l y) with h4 | h4
  · have hlt : cutA l x < l.length := Nat.lt_of_lt_of_le h4 (cutA_le l y)
    have h5 := (cutA_lt hr (List.getElem?_eq_getElem hlt)).1 h4
    have h6 := hno _ (List.getElem_mem hlt)
    have h7 := (cutA_lt hr (x := x) (List.getElem?_eq_getElem hlt)).2 (by omega)
    omega
  · omega
theorem wth_has {L : List Nd} {l : List Am} (hr : Rising l) {k a : Nat} {y : Am} {x : Nd} (hk : l[k]? = some y) (hx : L[a]? = some x) (h1 : (a : Int) ≤ y.node) (h2 : y.node < (a : Int) + x.size) :
    ∃ p q : Nat, wthI L l (a : Int) = ((p : Int), (q : Int)) ∧ p ≤ k ∧ k < q := by
  refine ⟨cutA l (a : Int), cutA l ((a : Int) + x.size), ?_, ?_, (cutA_lt hr hk).2 h2⟩
  · unfold wthI
    rw [if_pos (by omega), Int.toNat_natCast, hx]
    simp only
    rw [if_neg]
    have h3 := (cutA_lt hr (x := (a : Int) + x.size) hk).2 h2
    have h4 : ¬ k < cutA l (a : Int) := fun h => by have := (cutA_lt hr hk).1 h; omega
    omega
  · have h4 : ¬ k < cutA l (a : Int) := fun h => by have := (cutA_lt hr hk).1 h; omega
    omega
theorem above_has {L : List Nd} (hn : Nested L) {l : List Am} (hr : Rising l) (hok : AmOk L L.length l) {k : Nat} {y : Am} (hk : l[k]? = some y) : ∀ z ∈ y.node :: aboveI L y.node, ∃ p q : Nat, wthI L l z = ((p : Int), (q : Int)) ∧ p ≤ k ∧ k < q := by
  obtain ⟨j, x, e, hj, hx, _⟩ := hok.nodes y (List.mem_of_getElem? hk)
  rw [e]
  intro z hz
  rcases List.mem_cons.1 hz with rfl | hz
  · exact wth_has hr hk hx (by omega) (by have := (hn j x hx).1; omega)
  · unfold aboveI at hz
    rw [if_pos (hasI_iff.2 ⟨by omega, by omega⟩), Int.toNat_natCast] at hz
    obtain ⟨m, hm, rfl⟩ := List.mem_map.1 hz
    unfold aboveP at hm
    rw [if_pos hj] at hm
    obtain ⟨_, hh⟩ := up_mem.1 hm
    obtain ⟨v, hv, _, h1, h2⟩ := holdP_iff.1 hh
    exact wth_has hr hk hv (by omega) (by omega)
def atI (l : List Am) (p q k : Int) : Int := if cutA l p < cutA l q then (cutA l k : Int) else 0
theorem wth_node {L : List Nd} {l : List Am} (hr : Rising l) (hok : AmOk L L.length l) {i : Nat} {y : Nd} (hy : L[i]? = some y) (hk : y.kind = 1) :
    wthI L l (i : Int) = (atI l ((i : Int) + 1) ((i : Int) + y.size) ((i : Int) + 1), atI l ((i : Int) + 1) ((i : Int) + y.size) ((i : Int) + y.size)) := by
  have e : cutA l (i : Int) = cutA l ((i : Int) + 1) := cutA_eq hr (by omega) (fun z hz h => by
    obtain ⟨j, x, e, _, hx, hk2⟩ := hok.nodes z hz
    obtain rfl : j = i := by omega
    rw [hx] at hy
    injection hy with hy
    subst hy
    exact hk2 hk)
  unfold wthI atI
  rw [if_pos (by omega), Int.toNat_natCast, hy]
  simp only
  rw [e]
  by_cases h : cutA l ((i : Int) + y.size) ≤ cutA l ((i : Int) + 1)
  · rw [if_pos h, if_neg (by omega), if_neg (by omega)]
  · rw [if_neg h, if_pos (by omega), if_pos (by omega)]
theorem kid_step {L : List Nd} {l : List Am} (hr : Rising l) {P Q : Int} {k : Nat} {x : Nd} (hx : L[k]? = some x) (h1 : 1 ≤ x.size) (hpk : P ≤ (k : Int)) (hkq : (k : Int) + x.size ≤ Q) {a b : Int} (hv : wthI L l (k : Int) = (a, b)) :
    (b ≤ a ∧ atI l P Q ((k : Int) + x.size) = atI l P Q (k : Int)) ∨ (a < b ∧ a = atI l P Q (k : Int) ∧ b = atI l P Q ((k : Int) + x.size)) := by
  unfold wthI at hv
  rw [if_pos (by omega), Int.toNat_natCast, hx] at hv
  simp only at hv
  have m1 := cutA_mono hr hpk
  have m2 := cutA_mono hr hkq
  have m3 := cutA_mono hr (show (k : Int) ≤ (k : Int) + x.size by omega)
  by_cases h : cutA l ((k : Int) + x.size) ≤ cutA l (k : Int)
  · rw [if_pos h] at hv
    injection hv with e1 e2
    left
    refine ⟨by omega, ?_⟩
    unfold atI
    rw [show cutA l ((k : Int) + x.size) = cutA l (k : Int) by omega]
  · rw [if_neg h] at hv
    injection hv with e1 e2
    right
    unfold atI
    rw [if_pos (by omega), if_pos (by omega)]
    exact ⟨by omega, e1.symm, e2.symm⟩
theorem atI_bd {l : List Am} (p q k : Int) : 0 ≤ atI l p q k ∧ atI l p q k ≤ (l.length : Int) := by
  unfold atI
  have := cutA_le l k
  split <;> omega
theorem wth_bd {L : List Nd} {l : List Am} {a p q : Int} (h : wthI L l a = (p, q)) : (0 ≤ p ∧ p ≤ (l.length : Int)) ∧ 0 ≤ q ∧ q ≤ (l.length : Int) := by
  unfold wthI at h
  split at h
  · split at h
    · rename_i x _
      have h1 := cutA_le l a
      have h2 := cutA_le l (a + x.size)
      split at h
      · injection h with e1 e2; omega
      · injection h with e1 e2; omega
    · injection h with e1 e2; omega
  · injection h with e1 e2; omega
def anchB (a b : Int) (f : Fl) : Bool := decide (a ≤ f.anchor) && decide (f.anchor < b)
theorem anch_gal {s : Gs} (h : ∀ f ∈ s.fls, 0 ≤ f.anchor) : ∀ f ∈ floatsS s, 0 ≤ f.anchor ∧ f.anchor ≤ (s.ams.length : Int) := by
  intro f hf
  unfold floatsS at hf
  obtain ⟨g, hg, rfl⟩ := List.mem_map.1 hf
  have := h g hg
  unfold anchF
  split
  · simp only; omega
  · omega
theorem anch_two {l : List Fl} {n cut : Int} (h : ∀ f ∈ l, 0 ≤ f.anchor ∧ f.anchor ≤ n) (h0 : 0 ≤ cut) (h1 : cut ≤ n) : (l.filter (anchB 0 cut)).length + (l.filter (anchB cut (n + 1))).length = l.length := by
  induction l with
  | nil => rfl
  | cons f l ih =>
    have hf := h f (by simp)
    have ih := ih fun g hg => h g (by simp [hg])
    by_cases hc : f.anchor < cut
    · have e1 : anchB 0 cut f = true := by unfold anchB; rw [decide_eq_true hf.1, decide_eq_true hc]; rfl
      have e2 : anchB cut (n + 1) f = false := by unfold anchB; rw [decide_eq_false (by omega), Bool.false_and]
      rw [List.filter_cons_of_pos e1, List.filter_cons_of_neg (by rw [e2]; decide), List.length_cons, List.length_cons]
      omega
    · have e1 : anchB 0 cut f = false := by unfold anchB; rw [decide_eq_false hc, Bool.and_false]
      have e2 : anchB cut (n + 1) f = true := by unfold anchB; rw [decide_eq_true (by omega), decide_eq_true (by omega)]; rfl
      rw [List.filter_cons_of_neg (by rw [e1]; decide), List.filter_cons_of_pos e2, List.length_cons, List.length_cons]
      omega
end Go.Proofs.YtipmdhfinlkceaaGreat
