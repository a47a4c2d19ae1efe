import Derived.Test.YtdjnaejblgheoaaGreatJS01
import Derived.Test.YtdjnaejblgheoaaGreatJS00
/- Numbers of a galley that grows stay small. Nothing of the program stands here. -/
namespace Go.Proofs.YtdjnaejblgheoaaGreat
open Go
set_option linter.unusedVariables false
set_option linter.unusedSimpArgs false
theorem low_from {l0 : List Fl} (sides : Int) : ∀ (l : List Fl) (s : Int × Bool), (∀ f ∈ l, f ∈ l0) → (s.2 = true → ∃ f ∈ l0, s.1 = f.y + f.h) → (l.foldl (lowStep sides) s).2 = true → ∃ f ∈ l0, (l.foldl (lowStep sides) s).1 = f.y + f.h
  | [], s, _, hs, h => hs h
  | f :: r, s, hl, hs, h => by
    refine low_from sides r (lowStep sides s f) (fun g hg => hl g (List.mem_cons_of_mem _ hg)) ?_ h
    intro hq
    unfold lowStep at hq ⊢
    split
    · rename_i h1
      rw [if_pos h1] at hq
      exact hs hq
    · split
      · exact ⟨f, hl f (by simp), rfl⟩
      · rename_i h1 h2
        rw [if_neg h1, if_neg h2] at hq
        exact hs hq
theorem lowest_from {l : List Fl} {sides : Int} (h : (lowestL l sides).2 = true) : ∃ f ∈ l, (lowestL l sides).1 = f.y + f.h := low_from sides l (0, false) (fun f hf => hf) (fun h => by cases h) h
theorem topstep_from {l0 : List Fl} : ∀ (r : List Fl) (b : Int), (∀ f ∈ r, f ∈ l0) → (∃ f ∈ l0, b = f.y) → ∃ f ∈ l0, r.foldl topStep b = f.y
  | [], b, _, hb => hb
  | f :: r, b, hl, hb => by
    refine topstep_from r (topStep b f) (fun g hg => hl g (List.mem_cons_of_mem _ hg)) ?_
    unfold topStep
    split
    · exact ⟨f, hl f (by simp), rfl⟩
    · exact hb
theorem top_from : ∀ {l : List Fl}, l ≠ [] → ∃ f ∈ l, topF l = f.y
  | [], h => absurd rfl h
  | f :: r, _ => topstep_from (l0 := f :: r) r f.y (fun g hg => List.mem_cons_of_mem _ hg) ⟨f, by simp, rfl⟩
/-- a float with small numbers, that ends at H at most. -/
structure FlOk (H : Int) (f : Fl) : Prop where
  side : f.side = 1 ∨ f.side = 2
  x0 : 0 ≤ f.x
  x1 : f.x + f.w ≤ 2199023255552
  w0 : 1 ≤ f.w
  w1 : f.w ≤ maxN
  h0 : 1 ≤ f.h
  h1 : f.h ≤ maxN
  y0 : 0 ≤ f.y
  y1 : f.y + f.h ≤ H
theorem FlOk.mono {H K : Int} {f : Fl} (h : FlOk H f) (hk : H ≤ K) : FlOk K f := ⟨h.side, h.x0, h.x1, h.w0, h.w1, h.h0, h.h1, h.y0, Int.le_trans h.y1 hk⟩
theorem FlOk.near {H : Int} {f : Fl} (h : FlOk H f) (hH : H ≤ maxN) : f.near := by
  obtain ⟨_, h1, h2, h3, h4, h5, h6, h7, h8⟩ := h
  unfold Fl.near NearI farB maxN at *
  omega
/-- a galley with small numbers, that ends at H at most. -/
structure GsOk (H : Int) (s : Gs) : Prop where
  p0 : 0 ≤ s.pen.1
  p1 : 0 ≤ s.pen.2
  p2 : s.place ≤ H
  fls : ∀ f ∈ s.fls, FlOk H f
theorem GsOk.start : GsOk 0 .start := ⟨Int.le_refl _, Int.le_refl _, Int.le_refl _, fun f hf => by cases hf⟩
theorem GsOk.mono {H K : Int} {s : Gs} (h : GsOk H s) (hk : H ≤ K) : GsOk K s := ⟨h.p0, h.p1, Int.le_trans h.p2 hk, fun f hf => (h.fls f hf).mono hk⟩
theorem GsOk.ends {H : Int} {s : Gs} (h : GsOk H s) : ∀ f ∈ s.fls, f.y + f.h ≤ H := fun f hf => (h.fls f hf).y1
theorem GsOk.nears {H : Int} {s : Gs} (h : GsOk H s) (hH : H ≤ maxN) : ∀ f ∈ s.fls, f.near := fun f hf => (h.fls f hf).near hH
theorem GsOk.h0 {H : Int} {s : Gs} (h : GsOk H s) : 0 ≤ H := by have := h.p0; have := h.p1; have := h.p2; unfold Gs.place at this; omega
/-- how high what happens is, at most. -/
def leafH (x : Nd) : Int := if x.kind = 2 then x.line * (x.words.length : Int) else x.h
def evH (L : List Nd) : Ev → Int
  | .begin_ i => match L[i]? with
    | some x => x.sty.top + x.sty.padTop
    | none => 0
  | .end_ i => match L[i]? with
    | some x => x.sty.bottom + x.sty.padBottom
    | none => 0
  | .leaf i => match L[i]? with
    | some x => leafH x
    | none => 0
theorem evH_begin {L : List Nd} {i : Nat} {x : Nd} (hx : L[i]? = some x) : evH L (.begin_ i) = x.sty.top + x.sty.padTop := by
  show (match L[i]? with | some x => x.sty.top + x.sty.padTop | none => 0) = _
  rw [hx]
theorem evH_end {L : List Nd} {i : Nat} {x : Nd} (hx : L[i]? = some x) : evH L (.end_ i) = x.sty.bottom + x.sty.padBottom := by
  show (match L[i]? with | some x => x.sty.bottom + x.sty.padBottom | none => 0) = _
  rw [hx]
theorem evH_leaf {L : List Nd} {i : Nat} {x : Nd} (hx : L[i]? = some x) : evH L (.leaf i) = leafH x := by
  show (match L[i]? with | some x => leafH x | none => 0) = _
  rw [hx]
theorem sty_pos {x : Nd} (h : x.fits) (hk : x.kind = 1) : 0 ≤ x.sty.top ∧ 0 ≤ x.sty.bottom ∧ 0 ≤ x.sty.padTop ∧ 0 ≤ x.sty.padBottom ∧ 0 ≤ x.sty.head := by
  rcases h with ⟨_, hs, _⟩ | ⟨h, _⟩ | ⟨h, _⟩ | ⟨h, _⟩
  · obtain ⟨⟨h1, h2, h3, h4, _⟩, _, h5, _⟩ := hs
    unfold okN at *
    omega
  · omega
  · omega
  · omega
theorem sty_all_pos {x : Nd} (h : x.fits) : 0 ≤ x.sty.top ∧ 0 ≤ x.sty.bottom ∧ 0 ≤ x.sty.padTop ∧ 0 ≤ x.sty.padBottom := by
  by_cases hk : x.kind = 1
  · have := sty_pos h hk; omega
  · rcases h with ⟨h, _⟩ | ⟨_, hs, _⟩ | ⟨_, hs, _⟩ | ⟨_, hs, _⟩
    · exact absurd h hk
    all_goals
      rw [hs]; unfold Sty.none; simp
theorem clearS_ok {H : Int} {s : Gs} (h : GsOk H s) (sides : Int) : 0 ≤ (clearS s.fls sides s.pen).1 ∧ 0 ≤ (clearS s.fls sides s.pen).2 ∧ (clearS s.fls sides s.pen).1 + (clearS s.fls sides s.pen).2 ≤ H ∧ s.place ≤ (clearS s.fls sides s.pen).1 + (clearS s.fls sides s.pen).2 := by
  have h0 := h.p0
  have h1 := h.p1
  have h2 := h.p2
  unfold Gs.place at *
  unfold clearS
  split
  · rename_i hl
    obtain ⟨f, hf, he⟩ := lowest_from hl
    have := h.ends f hf
    unfold clearP
    split
    · simp only
      omega
    · exact ⟨h0, h1, h2, Int.le_refl _⟩
  · exact ⟨h0, h1, h2, Int.le_refl _⟩
theorem enterP_ok {p : Int × Int} {a d H : Int} (h0 : 0 ≤ p.1) (h1 : 0 ≤ p.2) (h2 : p.1 + p.2 ≤ H) (ha : 0 ≤ a) (hd : 0 ≤ d) : 0 ≤ (enterP p a d).1 ∧ 0 ≤ (enterP p a d).2 ∧ (enterP p a d).1 + (enterP p a d).2 ≤ H + (a + d) ∧ p.1 + p.2 ≤ (enterP p a d).1 + (enterP p a d).2 := by
  unfold enterP raiseI
  split <;> split <;> simp only <;> omega
theorem leaveP_ok {p : Int × Int} {a d H : Int} (h0 : 0 ≤ p.1) (h1 : 0 ≤ p.2) (h2 : p.1 + p.2 ≤ H) (ha : 0 ≤ a) (hd : 0 ≤ d) : 0 ≤ (leaveP p a d).1 ∧ 0 ≤ (leaveP p a d).2 ∧ (leaveP p a d).1 + (leaveP p a d).2 ≤ H + (a + d) ∧ p.1 + p.2 ≤ (leaveP p a d).1 + (leaveP p a d).2 := by
  unfold leaveP raiseI
  split <;> split <;> simp only <;> omega
theorem begin_ok {H : Int} {s : Gs} {x : Nd} (h : GsOk H s) (hx : x.fits) : GsOk (H + (x.sty.top + x.sty.padTop)) (beginS x s) ∧ s.place ≤ (beginS x s).place := by
  obtain ⟨t1, t2, t3, t4⟩ := sty_all_pos hx
  obtain ⟨c0, c1, c2, c3⟩ := clearS_ok h x.sty.clear
  obtain ⟨e0, e1, e2, e3⟩ := enterP_ok c0 c1 c2 t1 t3
  exact ⟨⟨e0, e1, e2, fun f hf => (h.fls f hf).mono (by omega)⟩, Int.le_trans c3 e3⟩
theorem end_ok {H : Int} {s : Gs} {x : Nd} (h : GsOk H s) (hx : x.fits) : GsOk (H + (x.sty.bottom + x.sty.padBottom)) (endS x s) ∧ s.place ≤ (endS x s).place := by
  obtain ⟨t1, t2, t3, t4⟩ := sty_all_pos hx
  obtain ⟨e0, e1, e2, e3⟩ := leaveP_ok h.p0 h.p1 h.p2 t2 t4
  exact ⟨⟨e0, e1, e2, fun f hf => (h.fls f hf).mono (by omega)⟩, e3⟩
/-- the pen behind a text's lines. -/
theorem lns_pen {l : List Fl} {ws : List Int} {sp h a b : Int} (h0 : 0 ≤ h) : ∀ (f i : Nat) (y M : Int) (p : Int × Int), (∀ g ∈ l, g.y + g.h ≤ M) → y ≤ M → 0 ≤ p.1 → 0 ≤ p.2 → p.1 + p.2 = y →
    0 ≤ (penLns h p (lnsF l ws sp h a b f i y)).1 ∧ 0 ≤ (penLns h p (lnsF l ws sp h a b f i y)).2 ∧ y ≤ (penLns h p (lnsF l ws sp h a b f i y)).1 + (penLns h p (lnsF l ws sp h a b f i y)).2 ∧ (penLns h p (lnsF l ws sp h a b f i y)).1 + (penLns h p (lnsF l ws sp h a b f i y)).2 ≤ M + ((lnsF l ws sp h a b f i y).length : Int) * h
  | 0, i, y, M, p, hM, hy, p0, p1, hp => by
    show 0 ≤ p.1 ∧ 0 ≤ p.2 ∧ y ≤ p.1 + p.2 ∧ p.1 + p.2 ≤ M + ((0 : Nat) : Int) * h
    refine ⟨p0, p1, by omega, by simp; omega⟩
  | f + 1, i, y, M, p, hM, hy, p0, p1, hp => by
    unfold lnsF
    by_cases hi : i < ws.length
    · rw [if_pos hi]
      have hy2 : (lineL l ws sp h a b i y).y = seekE l h (wordI ws i) a b y := rfl
      have hge : y ≤ (lineL l ws sp h a b i y).y := by rw [hy2]; exact seekE_ge _
      have hle : (lineL l ws sp h a b i y).y ≤ M := by rw [hy2]; exact seekE_le hM hy
      have ih := lns_pen (l := l) (ws := ws) (sp := sp) (a := a) (b := b) h0 f (lineL l ws sp h a b i y).to_.toNat ((lineL l ws sp h a b i y).y + h) (M + h) ((lineL l ws sp h a b i y).y + h, 0) (fun g hg => by have := hM g hg; omega) (by omega) (by simp only; omega) (Int.le_refl _) (by simp)
      have e : penLns h p (lineL l ws sp h a b i y :: lnsF l ws sp h a b f (lineL l ws sp h a b i y).to_.toNat ((lineL l ws sp h a b i y).y + h)) = penLns h ((lineL l ws sp h a b i y).y + h, 0) (lnsF l ws sp h a b f (lineL l ws sp h a b i y).to_.toNat ((lineL l ws sp h a b i y).y + h)) := rfl
      rw [e]
      obtain ⟨i0, i1, i2, i3⟩ := ih
      refine ⟨i0, i1, by omega, ?_⟩
      rw [List.length_cons, Int.natCast_add, Int.add_mul]
      simp only [Int.natCast_one, Int.one_mul]
      omega
    · rw [if_neg hi]
      show 0 ≤ p.1 ∧ 0 ≤ p.2 ∧ y ≤ p.1 + p.2 ∧ p.1 + p.2 ≤ M + ((0 : Nat) : Int) * h
      refine ⟨p0, p1, by omega, by simp; omega⟩
theorem mul_up {a b : Nat} {h : Int} (hab : a ≤ b) (h0 : 0 ≤ h) : (a : Int) * h ≤ h * (b : Int) := by
  rw [Int.mul_comm]
  exact Int.mul_le_mul_of_nonneg_left (by omega) h0
theorem text_ok {H : Int} {s : Gs} {x : Nd} {rm : Int × Int} {i : Nat} (h : GsOk H s) (hl : 0 ≤ x.line) : GsOk (H + x.line * (x.words.length : Int)) (textS rm i x s) ∧ s.place ≤ (textS rm i x s).place := by
  obtain ⟨i0, i1, i2, i3⟩ := lns_pen (l := s.fls) (ws := x.words) (sp := x.space) (a := rm.1) (b := rm.1 + rm.2) hl (x.words.length - 0) 0 s.place H s.pen h.ends h.p2 h.p0 h.p1 rfl
  have hm := mul_up (lnsL_most (l := s.fls) (ws := x.words) (sp := x.space) (h := x.line) (a := rm.1) (b := rm.1 + rm.2) s.place) hl
  have hn : 0 ≤ x.line * (x.words.length : Int) := Int.mul_nonneg hl (by omega)
  unfold lnsL at hm
  exact ⟨⟨i0, i1, Int.le_trans i3 (by omega), fun f hf => (h.fls f hf).mono (by omega)⟩, i2⟩
theorem box_ok {H : Int} {s : Gs} {x : Nd} {rm : Int × Int} {i : Nat} (h : GsOk H s) (hl : 0 ≤ x.h) : GsOk (H + x.h) (boxS rm i x s) ∧ s.place ≤ boxY rm x s ∧ boxY rm x s ≤ H := by
  have hge : s.place ≤ boxY rm x s := seekE_ge _
  have hle : boxY rm x s ≤ H := seekE_le h.ends h.p2
  have h0 : 0 ≤ s.place := by have := h.p0; have := h.p1; unfold Gs.place; omega
  exact ⟨⟨by show 0 ≤ boxY rm x s + x.h; omega, Int.le_refl _, by show boxY rm x s + x.h + 0 ≤ _; omega, fun f hf => (h.fls f hf).mono (by omega)⟩, hge, hle⟩
/-- where a float comes to stand. -/
theorem fits_place {l : List Fl} {h w a b y : Int} (hab : a ≤ b) (hw : 1 ≤ w) : (fitsF l h w a b y = true → a ≤ (bandL l y h (a, b)).1 ∧ (bandL l y h (a, b)).1 + w ≤ (bandL l y h (a, b)).2 ∧ (bandL l y h (a, b)).2 ≤ b) := by
  intro hf
  obtain ⟨m1, m2⟩ := bandL_mono (y := y) (h := h) l (a, b)
  unfold fitsF lenW at hf
  have := of_decide_eq_true hf
  split at this
  · omega
  · exact ⟨m1, by omega, m2⟩
theorem seekE_end {l : List Fl} {h w a b : Int} : ∀ (k : Nat) (y : Int), cntA l y ≤ k → fitsF l h w a b (seekE l h w a b y) = true ∨ (fitsF l h w a b (seekE l h w a b y) = false ∧ (nextL l (seekE l h w a b y) h a b).2 = false) := by
  intro k
  induction k with
  | zero =>
    intro y hk
    have hv : (nextL l y h a b).2 = false := by
      cases hv : (nextL l y h a b).2 with
      | false => rfl
      | true => have := cnt_next hv; omega
    by_cases hf : fitsF l h w a b y = true
    · rw [seekE_fits hf]; exact .inl hf
    · have hf' : fitsF l h w a b y = false := by simpa using hf
      rw [seekE_none hf' hv]; exact .inr ⟨hf', hv⟩
  | succ k ih =>
    intro y hk
    by_cases hf : fitsF l h w a b y = true
    · rw [seekE_fits hf]; exact .inl hf
    · have hf' : fitsF l h w a b y = false := by simpa using hf
      cases hv : (nextL l y h a b).2 with
      | false => rw [seekE_none hf' hv]; exact .inr ⟨hf', hv⟩
      | true =>
        rw [seekE_next hf' hv]
        exact ih _ (by have := cnt_next hv; omega)
/-- it has room there, and stands within; or nothing narrows the whole span, which isn't as wide as it. -/
theorem seekE_stands {l : List Fl} {h w a b y : Int} (hab : a ≤ b) (hw : 1 ≤ w) :
    (a ≤ (bandL l (seekE l h w a b y) h (a, b)).1 ∧ (bandL l (seekE l h w a b y) h (a, b)).1 + w ≤ (bandL l (seekE l h w a b y) h (a, b)).2 ∧ (bandL l (seekE l h w a b y) h (a, b)).2 ≤ b) ∨
    (bandL l (seekE l h w a b y) h (a, b) = (a, b) ∧ b - a < w) := by
  rcases seekE_end (l := l) (h := h) (w := w) (a := a) (b := b) _ y (Nat.le_refl _) with hf | ⟨hf, hv⟩
  · exact .inl (fits_place hab hw hf)
  · right
    have hb := next_none_whole hv
    refine ⟨hb, ?_⟩
    unfold fitsF lenW at hf
    rw [hb] at hf
    have := of_decide_eq_false hf
    simp only at this
    split at this <;> omega
theorem spot_stands {l : List Fl} {f : Fl} {y a b : Int} (hab : a ≤ b) (hw : 1 ≤ f.w) (hs : f.side = 1 ∨ f.side = 2) : a ≤ spotX l f y a b ∧ (spotX l f y a b + f.w ≤ b ∨ (spotX l f y a b = a ∧ b - a < f.w)) := by
  unfold spotX
  rw [spotY_seek]
  rcases seekE_stands (l := l) (h := f.h) (w := f.w) (y := startY l y) hab hw with ⟨h1, h2, h3⟩ | ⟨h1, h2⟩
  · split
    · exact ⟨h1, .inl (by omega)⟩
    · exact ⟨by omega, .inl (by omega)⟩
  · rw [h1]
    simp only
    split
    · exact ⟨Int.le_refl _, .inr ⟨rfl, h2⟩⟩
    · exact ⟨by omega, .inr ⟨by omega, h2⟩⟩
theorem startY_bds {l : List Fl} {H : Int} (h : ∀ f ∈ l, FlOk H f) {y : Int} (hy : y ≤ H) : y ≤ startY l y ∧ startY l y ≤ H := by
  unfold startY
  split
  · rename_i hc
    refine ⟨by omega, ?_⟩
    have hne : l ≠ [] := by
      intro e
      subst e
      have := hc.1
      simp [topL] at this
    obtain ⟨g, hg, he⟩ := top_from hne
    have := h g hg
    have := this.y1
    have := (h g hg).h0
    show topF l ≤ H
    omega
  · exact ⟨Int.le_refl _, hy⟩
theorem spotY_bds {l : List Fl} {H : Int} (h : ∀ f ∈ l, FlOk H f) (f : Fl) {y a b : Int} (hy : y ≤ H) : startY l y ≤ spotY l f y a b ∧ spotY l f y a b ≤ H := by
  rw [spotY_seek]
  exact ⟨seekE_ge _, seekE_le (fun g hg => (h g hg).y1) (startY_bds h hy).2⟩
theorem float_ok {H : Int} {s : Gs} {x : Nd} {rm : Int × Int} {i : Nat} (h : GsOk H s) (hr0 : 0 ≤ rm.1) (hr1 : rm.1 ≤ maxX) (hr2 : 1 ≤ rm.2) (hr3 : rm.2 ≤ maxX) (hw0 : 1 ≤ x.w) (hw1 : x.w ≤ maxN) (hh0 : 1 ≤ x.h) (hh1 : x.h ≤ maxN) (hs : x.side = 1 ∨ x.side = 2) :
    GsOk (H + x.h) (floatS rm i x s) := by
  have h0 : 0 ≤ s.place := by have := h.p0; have := h.p1; unfold Gs.place; omega
  refine ⟨h.p0, h.p1, Int.le_trans h.p2 (by omega), fun f hf => ?_⟩
  rcases List.mem_append.1 hf with hf | hf
  · exact (h.fls f hf).mono (by omega)
  · simp only [List.mem_singleton] at hf
    subst hf
    obtain ⟨s1, s2⟩ := spot_stands (l := s.fls) (f := ⟨(i : Int), x.side, (s.ams.length : Int), 0, 0, x.w, x.h⟩) (y := s.place) (a := rm.1) (b := rm.1 + rm.2) (by omega) hw0 hs
    obtain ⟨t1, t2⟩ := startY_bds h.fls h.p2
    obtain ⟨t3, t4⟩ := spotY_bds h.fls ⟨(i : Int), x.side, (s.ams.length : Int), 0, 0, x.w, x.h⟩ (a := rm.1) (b := rm.1 + rm.2) h.p2
    unfold maxX maxN at *
    simp only at s2
    exact ⟨hs, by simp only; omega, by simp only; omega, hw0, hw1, hh0, hh1, by simp only; omega, by simp only; omega⟩
end Go.Proofs.YtdjnaejblgheoaaGreat
/- All that happens: how high it is, how much it makes. Nothing of the program stands here. -/
namespace Go.Proofs.YtdjnaejblgheoaaGreat
open Go
set_option linter.unusedVariables false
set_option linter.unusedSimpArgs false
/-- rows that end at e: no node from i on goes farther. -/
def Clo (L : List Nd) (i e : Nat) : Prop := e ≤ L.length ∧ ∀ (k : Nat) (x : Nd), i ≤ k → k < e → L[k]? = some x → nxt k x ≤ e
theorem Clo.all {L : List Nd} (hn : Nested L) : Clo L 0 L.length := ⟨Nat.le_refl _, fun k x _ _ hx => (nxt_of hn hx).2⟩
theorem Clo.inner {L : List Nd} (hn : Nested L) {i : Nat} {x : Nd} (hx : L[i]? = some x) (hk : x.kind = 1) : Clo L (i + 1) (nxt i x) :=
  ⟨(nxt_of hn hx).2, fun k y h1 h2 hy => nxt_in hn hy hx hk (by omega) h2⟩
theorem Clo.next {L : List Nd} {i e : Nat} {x : Nd} (h : Clo L i e) (hx : L[i]? = some x) : Clo L (nxt i x) e := ⟨h.1, fun k y h1 h2 hy => h.2 k y (by have := nxt_lt i x; omega) h2 hy⟩
theorem Clo.at_ {L : List Nd} {i e : Nat} (h : Clo L i e) (hi : i < e) : ∃ x, L[i]? = some x ∧ nxt i x ≤ e := by
  have hlt : i < L.length := Nat.lt_of_lt_of_le hi h.1
  exact ⟨L[i], List.getElem?_eq_getElem hlt, h.2 i L[i] (Nat.le_refl _) hi (List.getElem?_eq_getElem hlt)⟩
theorem ev_ind {L : List Nd} (hn : Nested L) {P : Nat → Nat → Prop} (h0 : ∀ i e, e ≤ i → P i e)
    (h1 : ∀ (i e : Nat) (x : Nd), i < e → L[i]? = some x → nxt i x ≤ e → (x.kind = 1 → P (i + 1) (nxt i x)) → P (nxt i x) e → P i e) : ∀ (d i e : Nat), e ≤ i + d → Clo L i e → P i e
  | 0, i, e, hd, _ => h0 i e (by omega)
  | d + 1, i, e, hd, hc => by
    by_cases hi : i < e
    · obtain ⟨x, hx, hle⟩ := hc.at_ hi
      have hl := nxt_lt i x
      exact h1 i e x hi hx hle (fun hk => ev_ind hn h0 h1 d (i + 1) (nxt i x) (by omega) (Clo.inner hn hx hk)) (ev_ind hn h0 h1 d (nxt i x) e (by omega) (hc.next hx))
    · exact h0 i e (by omega)
/-- how high all that happens is. -/
def sumE (L : List Nd) (es : List Ev) : Int := (es.map (evH L)).sum
theorem sumE_nil (L : List Nd) : sumE L [] = 0 := rfl
theorem sumE_cons (L : List Nd) (e : Ev) (es : List Ev) : sumE L (e :: es) = evH L e + sumE L es := by unfold sumE; rw [List.map_cons, List.sum_cons]
theorem sumE_append (L : List Nd) (a b : List Ev) : sumE L (a ++ b) = sumE L a + sumE L b := by unfold sumE; rw [List.map_append, List.sum_append]
theorem evH_pos {L : List Nd} (hf : ∀ y ∈ L, y.fits) : ∀ e : Ev, 0 ≤ evH L e
  | .begin_ i => by
    cases hx : L[i]? with
    | none => show 0 ≤ (match L[i]? with | some x => x.sty.top + x.sty.padTop | none => 0); rw [hx]; exact Int.le_refl _
    | some x =>
      rw [evH_begin hx]
      have := sty_all_pos (hf x (List.mem_of_getElem? hx))
      omega
  | .end_ i => by
    cases hx : L[i]? with
    | none => show 0 ≤ (match L[i]? with | some x => x.sty.bottom + x.sty.padBottom | none => 0); rw [hx]; exact Int.le_refl _
    | some x =>
      rw [evH_end hx]
      have := sty_all_pos (hf x (List.mem_of_getElem? hx))
      omega
  | .leaf i => by
    cases hx : L[i]? with
    | none => show 0 ≤ (match L[i]? with | some x => leafH x | none => 0); rw [hx]; exact Int.le_refl _
    | some x =>
      rw [evH_leaf hx]
      unfold leafH
      rcases hf x (List.mem_of_getElem? hx) with ⟨hk, _, h1, _, _, _, h2, _⟩ | ⟨hk, _, h1, _⟩ | ⟨hk, _, _, _, _, _, h1, _⟩ | ⟨hk, _, _, _, _, _, h1, _⟩
      · rw [if_neg (by omega)]; omega
      · rw [if_pos hk]; have := h1.1; exact Int.mul_nonneg (by omega) (by omega)
      · rw [if_neg (by omega)]; have := h1.1; omega
      · rw [if_neg (by omega)]; have := h1.1; omega
theorem sumE_pos {L : List Nd} (hf : ∀ y ∈ L, y.fits) : ∀ es : List Ev, 0 ≤ sumE L es
  | [] => Int.le_refl _
  | e :: es => by rw [sumE_cons]; have := evH_pos hf e; have := sumE_pos hf es; omega
theorem highN_leaf {x : Nd} (hk : x.kind ≠ 1) : highN x = leafH x := by
  unfold highN leafH
  rw [if_neg hk]
theorem sumE_le {L : List Nd} (hn : Nested L) (hf : ∀ y ∈ L, y.fits) : ∀ (d i e : Nat), e ≤ i + d → Clo L i e → i ≤ e → sumE L (evN L i e) ≤ sumI highN (L.take e) - sumI highN (L.take i) := by
  intro d i e hd hc
  refine ev_ind hn (P := fun i e => i ≤ e → sumE L (evN L i e) ≤ sumI highN (L.take e) - sumI highN (L.take i)) ?_ ?_ d i e hd hc
  · intro i e he hi
    obtain rfl : i = e := by omega
    rw [evN_end (Nat.le_refl _), sumE_nil]
    omega
  · intro i e x hi hx hle hin hnx _
    have hl := nxt_lt i x
    have h2 := hnx hle
    have h3 := sumI_take highN hx
    rw [evN_step hi hx hle, sumE_append]
    by_cases hk : x.kind = 1
    · have h4 := hin hk (by omega)
      unfold ev1
      rw [if_pos hk, sumE_cons, sumE_append, sumE_cons, sumE_nil, evH_begin hx, evH_end hx]
      have h5 : highN x = x.sty.top + x.sty.bottom + x.sty.padTop + x.sty.padBottom + x.sty.head := by unfold highN; rw [if_pos hk]
      have h6 := (sty_pos (hf x (List.mem_of_getElem? hx)) hk).2.2.2.2
      omega
    · unfold ev1
      rw [if_neg hk, sumE_cons, sumE_nil, evH_leaf hx, ← highN_leaf hk]
      rw [nxt_leaf hn hx hk] at h2 ⊢
      omega
theorem sumE_all {L : List Nd} (hn : Nested L) (hf : ∀ y ∈ L, y.fits) : sumE L (evN L 0 L.length) ≤ sumI highN L := by
  have := sumE_le hn hf L.length 0 L.length (by omega) (Clo.all hn) (by omega)
  rw [List.take_length] at this
  simpa [sumI_nil] using this
/-- one thing more. -/
theorem ev_ok {L : List Nd} (hf : ∀ y ∈ L, y.fits) {w H : Int} (h1 : 1 ≤ w) (h2 : w ≤ maxX) {s : Gs} (h : GsOk H s) : ∀ e : Ev, GsOk (H + evH L e) (evS L w s e)
  | .begin_ i => by
    cases hx : L[i]? with
    | none =>
      show GsOk (H + (match L[i]? with | some x => x.sty.top + x.sty.padTop | none => 0)) (match L[i]? with | some x => beginS x s | none => s)
      rw [hx]; simpa using h
    | some x => rw [evH_begin hx, evS_begin hx]; exact (begin_ok h (hf x (List.mem_of_getElem? hx))).1
  | .end_ i => by
    cases hx : L[i]? with
    | none =>
      show GsOk (H + (match L[i]? with | some x => x.sty.bottom + x.sty.padBottom | none => 0)) (match L[i]? with | some x => endS x s | none => s)
      rw [hx]; simpa using h
    | some x => rw [evH_end hx, evS_end hx]; exact (end_ok h (hf x (List.mem_of_getElem? hx))).1
  | .leaf i => by
    cases hx : L[i]? with
    | none =>
      show GsOk (H + (match L[i]? with | some x => leafH x | none => 0)) (match L[i]? with | some x => leafS (roomP L w i) i x s | none => s)
      rw [hx]; simpa using h
    | some x =>
      rw [evH_leaf hx, evS_leaf hx]
      obtain ⟨r0, r1, r2, r3⟩ := room_bd hf h1 h2 i
      unfold leafH leafS
      rcases hf x (List.mem_of_getElem? hx) with ⟨hk, _, _, _, _, _, hh, _⟩ | ⟨hk, _, hl, _⟩ | ⟨hk, _, _, _, _, hw, hh, _⟩ | ⟨hk, _, _, _, _, hw, hh, hs⟩
      · rw [if_neg (by omega), if_neg (by omega), if_neg (by omega), if_neg (by omega), hh]; simpa using h
      · rw [if_pos hk, if_pos hk]; have := hl.1; exact (text_ok h (by omega)).1
      · rw [if_neg (by omega), if_neg (by omega), if_pos hk]; have := hh.1; exact (box_ok h (by omega)).1
      · rw [if_neg (by omega), if_neg (by omega), if_neg (by omega), if_pos hk]
        exact float_ok h r0 r1 r2 (by omega) hw.1 hw.2 hh.1 hh.2 (by have := hs.1; have := hs.2; omega)
theorem run_ok {L : List Nd} (hf : ∀ y ∈ L, y.fits) {w : Int} (h1 : 1 ≤ w) (h2 : w ≤ maxX) : ∀ (es : List Ev) {H : Int} {s : Gs}, GsOk H s → GsOk (H + sumE L es) (runS L w s es)
  | [], H, s, h => by rw [sumE_nil]; simpa [runS] using h
  | e :: es, H, s, h => by
    rw [sumE_cons, ← Int.add_assoc]
    exact run_ok hf h1 h2 es (ev_ok hf h1 h2 h e)
/-- how much it makes, at most. -/
theorem evS_len {L : List Nd} {w : Int} (hw : ∀ y ∈ L, y.words.length ≤ 60) (s : Gs) : ∀ e : Ev, (evS L w s e).ams.length ≤ s.ams.length + 60 ∧ (evS L w s e).fls.length ≤ s.fls.length + 1 ∧ s.ams.length ≤ (evS L w s e).ams.length ∧ s.fls.length ≤ (evS L w s e).fls.length
  | .begin_ i => by
    cases hx : L[i]? with
    | none => rw [show evS L w s (.begin_ i) = s by show (match L[i]? with | some x => beginS x s | none => s) = _; rw [hx]]; omega
    | some x => rw [evS_begin hx]; unfold beginS; simp only; omega
  | .end_ i => by
    cases hx : L[i]? with
    | none => rw [show evS L w s (.end_ i) = s by show (match L[i]? with | some x => endS x s | none => s) = _; rw [hx]]; omega
    | some x => rw [evS_end hx]; unfold endS; simp only; omega
  | .leaf i => by
    cases hx : L[i]? with
    | none => rw [show evS L w s (.leaf i) = s by show (match L[i]? with | some x => leafS (roomP L w i) i x s | none => s) = _; rw [hx]]; omega
    | some x =>
      rw [evS_leaf hx]
      have hb := hw x (List.mem_of_getElem? hx)
      have hm := lnsL_most (l := s.fls) (ws := x.words) (sp := x.space) (h := x.line) (a := (roomP L w i).1) (b := (roomP L w i).1 + (roomP L w i).2) s.place
      unfold leafS
      split
      · unfold textS; simp only [List.length_append, List.length_map]; omega
      · split
        · unfold boxS; simp only [List.length_append, List.length_cons, List.length_nil]; omega
        · split
          · unfold floatS putL; simp only [List.length_append, List.length_cons, List.length_nil]; omega
          · omega
theorem runS_len {L : List Nd} {w : Int} (hw : ∀ y ∈ L, y.words.length ≤ 60) : ∀ (es : List Ev) (s : Gs), (runS L w s es).ams.length ≤ s.ams.length + 60 * es.length ∧ (runS L w s es).fls.length ≤ s.fls.length + es.length ∧ s.ams.length ≤ (runS L w s es).ams.length ∧ s.fls.length ≤ (runS L w s es).fls.length
  | [], s => by show s.ams.length ≤ _ ∧ s.fls.length ≤ _ ∧ _ ≤ s.ams.length ∧ _ ≤ s.fls.length; omega
  | e :: es, s => by
    have h1 := evS_len (w := w) hw s e
    have h2 := runS_len (w := w) hw es (evS L w s e)
    have e1 : runS L w s (e :: es) = runS L w (evS L w s e) es := rfl
    rw [e1, List.length_cons]
    omega
theorem evN_len {L : List Nd} (hn : Nested L) : ∀ (d i e : Nat), e ≤ i + d → Clo L i e → (evN L i e).length ≤ 2 * (e - i) := by
  intro d i e hd hc
  refine ev_ind hn (P := fun i e => (evN L i e).length ≤ 2 * (e - i)) ?_ ?_ d i e hd hc
  · intro i e he
    rw [evN_end he]; simp
  · intro i e x hi hx hle hin hnx
    have hl := nxt_lt i x
    rw [evN_step hi hx hle, List.length_append]
    by_cases hk : x.kind = 1
    · have h4 := hin hk
      unfold ev1
      rw [if_pos hk]
      simp only [List.length_cons, List.length_append, List.length_nil]
      omega
    · unfold ev1
      rw [if_neg hk]
      simp only [List.length_cons, List.length_nil]
      omega
end Go.Proofs.YtdjnaejblgheoaaGreat
/- Floats in a row that is written, one number at a time: what a galley's last step makes of them. Nothing of the program stands here. -/
namespace Go.Proofs.YtdjnaejblgheoaaGreat
open Go Go.RowKit
set_option linter.unusedVariables false
set_option linter.unusedSimpArgs false
/-- block g holds these floats, none of their cells frozen. -/
structure FlsAt (w : World) (g : Nat) (l : List Fl) : Prop where
  lt : g < w.heap.size
  cell : ∀ (i : Nat) (x : Fl), l[i]? = some x → ∀ (j : Nat) (v : Value), (encFl x)[j]? = some v → w.cell? ⟨g, i * 7 + j, none⟩ = some v
  free : ∀ o, o < l.length * 7 → w.frozen? ⟨g, o, none⟩ = false
theorem FlsAt.of_owns {w : World} {B : Nat} {e : TypeId} {A : Option Addr} {n c : Nat} {l : List Fl} (h : w.ownsRow B e 7 (.slice A n c) n (l.flatMap encFl)) (hn : 0 < n) : ∃ g, A = some ⟨g, 0, none⟩ ∧ B ≤ g ∧ FlsAt w g l := by
  have hr := ownsRow_rows encFl_len (by decide) h
  rcases h.2 with ⟨h1, h2⟩ | ⟨g, cap, cur, h1, h2, h3, h4⟩
  · omega
  · injection h1 with h1
    subst h1
    refine ⟨g, rfl, h2, (Array.getElem?_eq_some_iff.1 h3).1, fun i x hx j v hv => ?_, fun o ho => ?_⟩
    · obtain ⟨b, off, e1, _, hc⟩ := hr.2.2 hn
      injection e1 with e1
      injection e1 with e2 e3
      subst e2 e3
      have := hc i x hx j v hv
      rw [Nat.zero_add] at this
      exact this
    · simp [World.frozen?, h3]
theorem FlsAt.below {w w' : World} {g : Nat} {l : List Fl} (h : FlsAt w g l) (hb : Below w.heap.size w w') : FlsAt w' g l :=
  ⟨Nat.lt_of_lt_of_le h.lt hb.size, fun i x hx j v hv => (below_cell hb h.lt).trans (h.cell i x hx j v hv), fun o ho => (hb.frozen (p := ⟨g, o, none⟩) h.lt).trans (h.free o ho)⟩
theorem FlsAt.other {w : World} {g k j : Nat} {l : List Fl} (h : FlsAt w g l) (hk : k ≠ g) (v : Value) : FlsAt (w.setCell ⟨k, j, none⟩ v) g l :=
  ⟨by simpa using h.lt, fun i x hx j' v' hv => by rw [World.cell?_setCell_other _ _ _ _ (fun e => hk (by injection e))]; exact h.cell i x hx j' v' hv, fun o ho => by rw [World.frozen?_setCell]; exact h.free o ho⟩
/-- one float's anchor is written. -/
theorem FlsAt.anchor {w : World} {g k : Nat} {l : List Fl} {x : Fl} (h : FlsAt w g l) (hx : l[k]? = some x) (a : Int) : FlsAt (w.setCell ⟨g, k * 7 + 2, none⟩ (.int .i64 a)) g (l.set k { x with anchor := a }) := by
  have hk : k < l.length := (List.getElem?_eq_some_iff.1 hx).1
  refine ⟨by simpa using h.lt, fun i y hy j v hv => ?_, fun o ho => by rw [World.frozen?_setCell]; exact h.free o (by simpa using ho)⟩
  have hj : j < 7 := by have := (List.getElem?_eq_some_iff.1 hv).1; rw [encFl_len] at this; exact this
  by_cases hik : k = i
  · subst hik
    rw [List.getElem?_set_self hk] at hy
    injection hy with hy
    subst hy
    by_cases hj2 : j = 2
    · subst hj2
      simp [encFl] at hv
      subst hv
      exact World.cell?_setCell_same _ _ _ (h.cell k x hx 2 _ rfl)
    · rw [World.cell?_setCell_other _ _ _ _ (fun e => hj2 (by injection e with _ e; omega))]
      refine h.cell k x hx j v ?_
      match j, hj2 with
      | 0, _ => exact hv
      | 1, _ => exact hv
      | 3, _ => exact hv
      | 4, _ => exact hv
      | 5, _ => exact hv
      | 6, _ => exact hv
      | j + 7, _ => omega
  · rw [List.getElem?_set_ne hik] at hy
    rw [World.cell?_setCell_other _ _ _ _ (fun e => hik (by injection e with _ e; omega))]
    exact h.cell i y hy j v hv
theorem FlsAt.rows {w : World} {g n : Nat} {l : List Fl} (h : FlsAt w g l) (hn : l.length = n) (hm : n ≤ 1000) : Rows 7 encFl w (some ⟨g, 0, none⟩) n l :=
  ⟨hn, by omega, fun _ => ⟨g, 0, rfl, h.lt, fun i x hx j v hv => by rw [Nat.zero_add]; exact h.cell i x hx j v hv⟩⟩
/-- the first k floats' anchors are told; the others' aren't yet. -/
def anchTo (a : Int) (l : List Fl) (k : Nat) : List Fl := (l.take k).map (anchF a) ++ l.drop k
theorem anchTo_zero (a : Int) (l : List Fl) : anchTo a l 0 = l := by unfold anchTo; simp
theorem anchTo_all {a : Int} {l : List Fl} {k : Nat} (h : l.length ≤ k) : anchTo a l k = l.map (anchF a) := by
  unfold anchTo
  rw [List.take_of_length_le h, List.drop_eq_nil_of_le h, List.append_nil]
theorem anchTo_len (a : Int) (l : List Fl) (k : Nat) : (anchTo a l k).length = l.length := by
  unfold anchTo
  rw [List.length_append, List.length_map, List.length_take, List.length_drop]
  omega
theorem anchTo_at {a : Int} {l : List Fl} {k : Nat} {x : Fl} (hx : l[k]? = some x) : (anchTo a l k)[k]? = some x := by
  have hk : k < l.length := (List.getElem?_eq_some_iff.1 hx).1
  unfold anchTo
  rw [List.getElem?_append_right (by rw [List.length_map, List.length_take]; omega), List.length_map, List.length_take, List.getElem?_drop]
  rw [show k + (k - min k l.length) = k by omega]
  exact hx
theorem anchTo_step {a : Int} {l : List Fl} {k : Nat} {x : Fl} (hx : l[k]? = some x) : anchTo a l (k + 1) = (anchTo a l k).set k (anchF a x) := by
  have hk : k < l.length := (List.getElem?_eq_some_iff.1 hx).1
  have e : l.drop k = x :: l.drop (k + 1) := by
    rw [List.drop_eq_getElem_cons hk]
    congr 1
    rw [List.getElem?_eq_getElem hk] at hx
    injection hx
  unfold anchTo
  rw [e, List.set_append_right _ _ (by rw [List.length_map, List.length_take]; omega), take_one hx, List.map_append, List.length_map, List.length_take]
  rw [show k - min k l.length = 0 by omega]
  simp
end Go.Proofs.YtdjnaejblgheoaaGreat
/- The order in which a galley grows: what happens, leaf by leaf; what is there stays. Nothing of the program stands here. -/
namespace Go.Proofs.YtdjnaejblgheoaaGreat
open Go
set_option linter.unusedVariables false
set_option linter.unusedSimpArgs false
/-- the nodes that are no blocks, as they come. -/
def leavesE : List Ev → List Nat
  | [] => []
  | .leaf i :: es => i :: leavesE es
  | .begin_ _ :: es => leavesE es
  | .end_ _ :: es => leavesE es
theorem leavesE_append : ∀ (a b : List Ev), leavesE (a ++ b) = leavesE a ++ leavesE b
  | [], b => rfl
  | .leaf i :: es, b => by show i :: leavesE (es ++ b) = i :: leavesE es ++ leavesE b; rw [leavesE_append es b]; rfl
  | .begin_ i :: es, b => leavesE_append es b
  | .end_ i :: es, b => leavesE_append es b
def leafB (L : List Nd) (i : Nat) : Bool := match L[i]? with
  | some x => !decide (x.kind = 1)
  | none => false
def leavesN (L : List Nd) (i e : Nat) : List Nat := (List.range' i (e - i)).filter (leafB L)
theorem leavesN_end {L : List Nd} {i e : Nat} (h : e ≤ i) : leavesN L i e = [] := by unfold leavesN; rw [show e - i = 0 by omega]; rfl
theorem leavesN_split {L : List Nd} {i j e : Nat} (h1 : i ≤ j) (h2 : j ≤ e) : leavesN L i e = leavesN L i j ++ leavesN L j e := by
  unfold leavesN
  rw [← List.filter_append]
  congr 1
  have : e - i = (j - i) + (e - j) := by omega
  rw [this, ← List.range'_append_1]
  rw [show i + (j - i) = j by omega]
theorem leavesN_one {L : List Nd} {i : Nat} {x : Nd} (hx : L[i]? = some x) : leavesN L i (i + 1) = if x.kind = 1 then [] else [i] := by
  unfold leavesN
  rw [show i + 1 - i = 1 by omega]
  simp only [List.range'_one, List.filter_cons, List.filter_nil]
  unfold leafB
  rw [hx]
  by_cases hk : x.kind = 1 <;> simp [hk]
theorem leaves_ev {L : List Nd} (hn : Nested L) : ∀ (d i e : Nat), e ≤ i + d → Clo L i e → leavesE (evN L i e) = leavesN L i e := by
  intro d i e hd hc
  refine ev_ind hn (P := fun i e => leavesE (evN L i e) = leavesN L i e) ?_ ?_ d i e hd hc
  · intro i e he
    rw [evN_end he, leavesN_end he]
    rfl
  · intro i e x hi hx hle hin hnx
    have hl := nxt_lt i x
    rw [evN_step hi hx hle, leavesE_append, hnx, leavesN_split (show i ≤ nxt i x by omega) hle]
    congr 1
    by_cases hk : x.kind = 1
    · rw [leavesN_split (show i ≤ i + 1 by omega) (show i + 1 ≤ nxt i x by omega), leavesN_one hx, if_pos hk, List.nil_append, ← hin hk]
      unfold ev1
      rw [if_pos hk]
      show leavesE (evN L (i + 1) (nxt i x) ++ [.end_ i]) = _
      rw [leavesE_append]
      show leavesE _ ++ [] = _
      rw [List.append_nil]
    · rw [nxt_leaf hn hx hk, leavesN_one hx, if_neg hk]
      unfold ev1
      rw [if_neg hk]
      rfl
theorem leaves_all {L : List Nd} (hn : Nested L) : leavesE (evN L 0 L.length) = leavesN L 0 L.length := leaves_ev hn L.length 0 L.length (by omega) (Clo.all hn)
/-- the next leaf, and what comes ahead of it. -/
theorem leaf_next : ∀ {es : List Ev} {j : Nat} {js : List Nat}, leavesE es = j :: js → ∃ mid post, es = mid ++ .leaf j :: post ∧ leavesE mid = [] ∧ leavesE post = js
  | [], j, js, h => by cases h
  | .leaf i :: es, j, js, h => by
    injection h with h1 h2
    subst h1
    exact ⟨[], es, rfl, rfl, h2⟩
  | .begin_ i :: es, j, js, h => by
    obtain ⟨mid, post, e1, e2, e3⟩ := leaf_next (es := es) h
    exact ⟨.begin_ i :: mid, post, by rw [e1]; rfl, e2, e3⟩
  | .end_ i :: es, j, js, h => by
    obtain ⟨mid, post, e1, e2, e3⟩ := leaf_next (es := es) h
    exact ⟨.end_ i :: mid, post, by rw [e1]; rfl, e2, e3⟩
theorem leavesN_cons {L : List Nd} {i : Nat} {x : Nd} (hx : L[i]? = some x) : leavesN L i L.length = (if x.kind = 1 then [] else [i]) ++ leavesN L (i + 1) L.length := by
  have hi : i < L.length := (List.getElem?_eq_some_iff.1 hx).1
  rw [leavesN_split (show i ≤ i + 1 by omega) (show i + 1 ≤ L.length by omega), leavesN_one hx]
/-- what is there stays, and the pen's place never rises. -/
structure Grows (s t : Gs) : Prop where
  ams : ∃ l, t.ams = s.ams ++ l
  fls : ∃ l, t.fls = s.fls ++ l
  place : s.place ≤ t.place
theorem Grows.refl (s : Gs) : Grows s s := ⟨⟨[], by simp⟩, ⟨[], by simp⟩, Int.le_refl _⟩
theorem Grows.trans {s t u : Gs} (h : Grows s t) (k : Grows t u) : Grows s u := by
  obtain ⟨l1, e1⟩ := h.ams
  obtain ⟨l2, e2⟩ := k.ams
  obtain ⟨m1, f1⟩ := h.fls
  obtain ⟨m2, f2⟩ := k.fls
  exact ⟨⟨l1 ++ l2, by rw [e2, e1, List.append_assoc]⟩, ⟨m1 ++ m2, by rw [f2, f1, List.append_assoc]⟩, Int.le_trans h.place k.place⟩
theorem ev_grows {L : List Nd} (hf : ∀ y ∈ L, y.fits) {w H : Int} {s : Gs} (h : GsOk H s) : ∀ e : Ev, Grows s (evS L w s e)
  | .begin_ i => by
    cases hx : L[i]? with
    | none => rw [show evS L w s (.begin_ i) = s by show (match L[i]? with | some x => beginS x s | none => s) = _; rw [hx]]; exact Grows.refl s
    | some x => rw [evS_begin hx]; exact ⟨⟨[], by simp [beginS]⟩, ⟨[], by simp [beginS]⟩, (begin_ok h (hf x (List.mem_of_getElem? hx))).2⟩
  | .end_ i => by
    cases hx : L[i]? with
    | none => rw [show evS L w s (.end_ i) = s by show (match L[i]? with | some x => endS x s | none => s) = _; rw [hx]]; exact Grows.refl s
    | some x => rw [evS_end hx]; exact ⟨⟨[], by simp [endS]⟩, ⟨[], by simp [endS]⟩, (end_ok h (hf x (List.mem_of_getElem? hx))).2⟩
  | .leaf i => by
    cases hx : L[i]? with
    | none => rw [show evS L w s (.leaf i) = s by show (match L[i]? with | some x => leafS (roomP L w i) i x s | none => s) = _; rw [hx]]; exact Grows.refl s
    | some x =>
      rw [evS_leaf hx]
      unfold leafS
      rcases hf x (List.mem_of_getElem? hx) with ⟨hk, _⟩ | ⟨hk, _, hl, _⟩ | ⟨hk, _, _, _, _, hw, hh, _⟩ | ⟨hk, _⟩
      · rw [if_neg (by omega), if_neg (by omega), if_neg (by omega)]; exact Grows.refl s
      · rw [if_pos hk]
        exact ⟨⟨_, rfl⟩, ⟨[], by simp [textS]⟩, (text_ok h (by have := hl.1; omega)).2⟩
      · rw [if_neg (by omega), if_pos hk]
        have hb := box_ok (rm := roomP L w i) (i := i) h (show 0 ≤ x.h by have := hh.1; omega)
        exact ⟨⟨_, rfl⟩, ⟨[], by simp [boxS]⟩, by show s.place ≤ boxY (roomP L w i) x s + x.h + 0; have := hh.1; omega⟩
      · rw [if_neg (by omega), if_neg (by omega), if_pos hk]
        exact ⟨⟨[], by simp [floatS]⟩, ⟨_, rfl⟩, Int.le_refl _⟩
theorem run_grows {L : List Nd} (hf : ∀ y ∈ L, y.fits) {w : Int} (h1 : 1 ≤ w) (h2 : w ≤ maxX) : ∀ (es : List Ev) {H : Int} {s : Gs}, GsOk H s → Grows s (runS L w s es)
  | [], H, s, h => Grows.refl s
  | e :: es, H, s, h => (ev_grows hf h e).trans (run_grows hf h1 h2 es (ev_ok hf h1 h2 h e))
/-- where no leaf is, atoms and floats stay. -/
theorem run_mid {L : List Nd} {w : Int} : ∀ (es : List Ev) (s : Gs), leavesE es = [] → (runS L w s es).ams = s.ams ∧ (runS L w s es).fls = s.fls
  | [], s, _ => ⟨rfl, rfl⟩
  | .leaf i :: es, s, h => by cases h
  | .begin_ i :: es, s, h => by
    have ih := run_mid (L := L) (w := w) es (evS L w s (.begin_ i)) h
    have e1 : (evS L w s (.begin_ i)).ams = s.ams ∧ (evS L w s (.begin_ i)).fls = s.fls := by
      cases hx : L[i]? with
      | none => rw [show evS L w s (.begin_ i) = s by show (match L[i]? with | some x => beginS x s | none => s) = _; rw [hx]]; exact ⟨rfl, rfl⟩
      | some x => rw [evS_begin hx]; exact ⟨rfl, rfl⟩
    exact ⟨ih.1.trans e1.1, ih.2.trans e1.2⟩
  | .end_ i :: es, s, h => by
    have ih := run_mid (L := L) (w := w) es (evS L w s (.end_ i)) h
    have e1 : (evS L w s (.end_ i)).ams = s.ams ∧ (evS L w s (.end_ i)).fls = s.fls := by
      cases hx : L[i]? with
      | none => rw [show evS L w s (.end_ i) = s by show (match L[i]? with | some x => endS x s | none => s) = _; rw [hx]]; exact ⟨rfl, rfl⟩
      | some x => rw [evS_end hx]; exact ⟨rfl, rfl⟩
    exact ⟨ih.1.trans e1.1, ih.2.trans e1.2⟩
/-- as far as node i: what has happened, and what hasn't yet. -/
structure Upto (L : List Nd) (w : Int) (i : Nat) (s : Gs) : Prop where
  ex : ∃ pre post, evN L 0 L.length = pre ++ post ∧ s = runS L w .start pre ∧ leavesE post = leavesN L i L.length
theorem Upto.zero {L : List Nd} (hn : Nested L) (w : Int) : Upto L w 0 .start := ⟨[], evN L 0 L.length, rfl, rfl, leaves_all hn⟩
theorem Upto.block {L : List Nd} {w : Int} {i : Nat} {s : Gs} {x : Nd} (h : Upto L w i s) (hx : L[i]? = some x) (hk : x.kind = 1) : Upto L w (i + 1) s := by
  obtain ⟨pre, post, h1, h2, h3⟩ := h.ex
  rw [leavesN_cons hx, if_pos hk, List.nil_append] at h3
  exact ⟨pre, post, h1, h2, h3⟩
/-- a leaf: it comes next, on a galley with the same atoms and floats. -/
theorem Upto.leaf {L : List Nd} (hf : ∀ y ∈ L, y.fits) {w : Int} (w1 : 1 ≤ w) (w2 : w ≤ maxX) {i : Nat} {s : Gs} {x : Nd} (h : Upto L w i s) (hx : L[i]? = some x) (hk : x.kind ≠ 1) :
    ∃ t, t.ams = s.ams ∧ t.fls = s.fls ∧ s.place ≤ t.place ∧ (∃ H, GsOk H t ∧ H ≤ sumE L (evN L 0 L.length)) ∧ Upto L w (i + 1) (leafS (roomP L w i) i x t) := by
  obtain ⟨pre, post, h1, h2, h3⟩ := h.ex
  rw [leavesN_cons hx, if_neg hk] at h3
  obtain ⟨mid, post', e1, e2, e3⟩ := leaf_next h3
  have hok := run_ok hf w1 w2 pre (w := w) GsOk.start
  have hg := run_grows hf w1 w2 mid hok
  have hm := run_mid (L := L) (w := w) mid (runS L w .start pre) e2
  refine ⟨runS L w s mid, by rw [h2]; exact hm.1, by rw [h2]; exact hm.2, by rw [h2]; exact hg.place, ⟨_, by rw [h2]; exact run_ok hf w1 w2 mid hok, ?_⟩, ⟨pre ++ mid ++ [.leaf i], post', ?_, ?_, e3⟩⟩
  · rw [h1, e1, sumE_append, sumE_append]
    have := sumE_pos hf (.leaf i :: post')
    omega
  · rw [h1, e1]; simp
  · rw [runS_append, runS_append, h2]
    show _ = evS L w (runS L w (runS L w .start pre) mid) (.leaf i)
    rw [evS_leaf hx]
theorem Upto.end_ {L : List Nd} {w : Int} {s : Gs} (h : Upto L w L.length s) : (galS L w).ams = s.ams ∧ (galS L w).fls = s.fls := by
  obtain ⟨pre, post, h1, h2, h3⟩ := h.ex
  rw [leavesN_end (Nat.le_refl _)] at h3
  unfold galS
  rw [h1, runS_append, h2]
  exact run_mid post _ h3
theorem Upto.ok {L : List Nd} (hf : ∀ y ∈ L, y.fits) {w : Int} (w1 : 1 ≤ w) (w2 : w ≤ maxX) {i : Nat} {s : Gs} (h : Upto L w i s) : ∃ H, GsOk H s ∧ H ≤ sumE L (evN L 0 L.length) := by
  obtain ⟨pre, post, h1, h2, h3⟩ := h.ex
  refine ⟨0 + sumE L pre, by rw [h2]; exact run_ok hf w1 w2 pre GsOk.start, ?_⟩
  rw [h1, sumE_append]
  have := sumE_pos hf post
  omega
end Go.Proofs.YtdjnaejblgheoaaGreat
/- Without floats: what happens to a pen, step by step. Nothing of the program stands here. -/
namespace Go.Proofs.YtdjnaejblgheoaaGreat
open Go
set_option linter.unusedVariables false
set_option linter.unusedSimpArgs false
/-- what a node that is no block does to a pen, in a room so wide. -/
def leafT (u : Int) (x : Nd) : List Stp := if x.kind = 2 then List.replicate (linesP x.words x.space u 0).length ⟨4, x.line, 0⟩ else if x.kind = 3 then [⟨4, x.h, 0⟩] else []
def stpE (L : List Nd) (wd : Int) : Ev → List Stp
  | .begin_ i => match L[i]? with
    | some x => [⟨1, x.sty.top, x.sty.padTop⟩]
    | none => []
  | .end_ i => match L[i]? with
    | some x => [⟨2, x.sty.bottom, x.sty.padBottom⟩]
    | none => []
  | .leaf i => match L[i]? with
    | some x => leafT (roomP L wd i).2 x
    | none => []
theorem stpE_begin {L : List Nd} {wd : Int} {i : Nat} {x : Nd} (hx : L[i]? = some x) : stpE L wd (.begin_ i) = [⟨1, x.sty.top, x.sty.padTop⟩] := by
  show (match L[i]? with | some x => ([⟨1, x.sty.top, x.sty.padTop⟩] : List Stp) | none => []) = _
  rw [hx]
theorem stpE_end {L : List Nd} {wd : Int} {i : Nat} {x : Nd} (hx : L[i]? = some x) : stpE L wd (.end_ i) = [⟨2, x.sty.bottom, x.sty.padBottom⟩] := by
  show (match L[i]? with | some x => ([⟨2, x.sty.bottom, x.sty.padBottom⟩] : List Stp) | none => []) = _
  rw [hx]
theorem stpE_leaf {L : List Nd} {wd : Int} {i : Nat} {x : Nd} (hx : L[i]? = some x) : stpE L wd (.leaf i) = leafT (roomP L wd i).2 x := by
  show (match L[i]? with | some x => leafT (roomP L wd i).2 x | none => []) = _
  rw [hx]
def stpsE (L : List Nd) (wd : Int) (es : List Ev) : List Stp := es.flatMap (stpE L wd)
theorem stpsE_append (L : List Nd) (wd : Int) (a b : List Ev) : stpsE L wd (a ++ b) = stpsE L wd a ++ stpsE L wd b := by unfold stpsE; exact List.flatMap_append
theorem seekE_nil (h w a b y : Int) : seekE [] h w a b y = y := by
  unfold seekE
  show seekF [] h w a b 0 y = y
  rfl
/-- a text's lines where no float is. -/
theorem lns_nil {ws : List Int} {sp h a b u : Int} (hu : lenW a b = u) : ∀ (f i : Nat) (y : Int) (p : Int × Int), p.1 + p.2 = y →
    penLns h p (lnsF [] ws sp h a b f i y) = penL p (List.replicate (linesF ws sp u f i).length ⟨4, h, 0⟩) ∧ (lnsF [] ws sp h a b f i y).map (·.y) = placesL p (List.replicate (linesF ws sp u f i).length ⟨4, h, 0⟩) ∧ ∀ z ∈ lnsF [] ws sp h a b f i y, z.x = a
  | 0, i, y, p, hp => ⟨rfl, rfl, fun z hz => by cases hz⟩
  | f + 1, i, y, p, hp => by
    unfold lnsF linesF
    by_cases hi : i < ws.length
    · rw [if_pos hi, if_pos hi]
      have hb : ∀ y h, bandL [] y h (a, b) = (a, b) := fun _ _ => rfl
      have hy : (lineL [] ws sp h a b i y).y = y := seekE_nil h (wordI ws i) a b y
      have hx : (lineL [] ws sp h a b i y).x = a := rfl
      have ht : (lineL [] ws sp h a b i y).to_.toNat = endP ws sp u i := by
        show ((endP ws sp (lenW (bandL [] _ h (a, b)).1 (bandL [] _ h (a, b)).2) i : Nat) : Int).toNat = _
        rw [hb, Int.toNat_natCast]
        show endP ws sp (lenW a b) i = _
        rw [hu]
      rw [ht, hy]
      obtain ⟨h1, h2, h3⟩ := lns_nil (sp := sp) (h := h) hu f (endP ws sp u i) (y + h) (y + h, 0) (by simp)
      have hs : stepP p ⟨4, h, 0⟩ = (y + h, 0) := by unfold stepP; simp; omega
      rw [List.length_cons, List.replicate_succ]
      refine ⟨?_, ?_, ?_⟩
      · show penLns h ((lineL [] ws sp h a b i y).y + h, 0) _ = penL (stepP p ⟨4, h, 0⟩) _
        rw [hy, hs]
        exact h1
      · show (lineL [] ws sp h a b i y).y :: _ = placeP p ⟨4, h, 0⟩ ++ placesL (stepP p ⟨4, h, 0⟩) _
        rw [hs, hy, h2]
        show _ = (if (4 : Int) = 4 then [p.1 + p.2] else []) ++ _
        rw [if_pos rfl, hp]
        rfl
      · intro z hz
        rcases List.mem_cons.1 hz with rfl | hz
        · exact hx
        · exact h3 z hz
    · rw [if_neg hi, if_neg hi]
      exact ⟨rfl, rfl, fun z hz => by cases hz⟩
/-- an atom that stands at its room's begin. -/
def AtRoom (L : List Nd) (wd : Int) (a : Am) : Prop := ∃ i : Nat, a.node = (i : Int) ∧ i < L.length ∧ a.x = (roomP L wd i).1
theorem leaf_nil {L : List Nd} {wd : Int} {s : Gs} {i : Nat} {x : Nd} (hx : L[i]? = some x) (hu : 1 ≤ (roomP L wd i).2) (hn : (leafS (roomP L wd i) i x s).fls = []) :
    s.fls = [] ∧ (leafS (roomP L wd i) i x s).pen = penL s.pen (leafT (roomP L wd i).2 x) ∧ ∃ l, (leafS (roomP L wd i) i x s).ams = s.ams ++ l ∧ l.map (·.y) = placesL s.pen (leafT (roomP L wd i).2 x) ∧ ∀ a ∈ l, AtRoom L wd a := by
  have hil : i < L.length := (List.getElem?_eq_some_iff.1 hx).1
  have har : ∀ a : Am, a.node = (i : Int) → a.x = (roomP L wd i).1 → AtRoom L wd a := fun a h1 h2 => ⟨i, h1, hil, h2⟩
  obtain ⟨⟨rx, u⟩, hrm⟩ : ∃ r, roomP L wd i = r := ⟨_, rfl⟩
  rw [hrm] at hu hn har ⊢
  simp only at hu har
  have hlw : lenW rx (rx + u) = u := by unfold lenW; rw [if_neg (by omega)]; omega
  unfold leafS at hn ⊢
  unfold leafT
  by_cases hk2 : x.kind = 2
  · rw [if_pos hk2] at hn
    rw [if_pos hk2, if_pos hk2]
    have hf : s.fls = [] := hn
    obtain ⟨h1, h2, h3⟩ := lns_nil (ws := x.words) (sp := x.space) (h := x.line) (a := rx) (b := rx + u) hlw x.words.length 0 s.place s.pen rfl
    refine ⟨hf, ?_, (lnsL s.fls x.words x.space x.line rx (rx + u) 0 s.place).map (lineAm i x.line), rfl, ?_, ?_⟩
    · show penLns x.line s.pen (lnsL s.fls x.words x.space x.line rx (rx + u) 0 s.place) = _
      rw [hf]
      exact h1
    · rw [hf, List.map_map]
      exact h2
    · intro a ha
      obtain ⟨z, hz, rfl⟩ := List.mem_map.1 ha
      rw [hf] at hz
      exact har _ rfl (h3 z hz)
  · rw [if_neg hk2] at hn
    rw [if_neg hk2, if_neg hk2]
    by_cases hk3 : x.kind = 3
    · rw [if_pos hk3] at hn
      rw [if_pos hk3, if_pos hk3]
      have hf : s.fls = [] := hn
      have hy : boxY (rx, u) x s = s.place := by unfold boxY; rw [hf]; exact seekE_nil _ _ _ _ _
      refine ⟨hf, ?_, _, rfl, ?_, ?_⟩
      · show (boxY (rx, u) x s + x.h, (0 : Int)) = penL s.pen [⟨4, x.h, 0⟩]
        rw [hy]
        show _ = stepP s.pen ⟨4, x.h, 0⟩
        unfold stepP Gs.place
        simp
      · show [boxY (rx, u) x s] = placeP s.pen ⟨4, x.h, 0⟩ ++ []
        rw [hy]
        rfl
      · intro a ha
        simp only [List.mem_singleton] at ha
        subst ha
        exact har _ rfl (by show (bandL s.fls _ _ _).1 = rx; rw [hf]; rfl)
    · rw [if_neg hk3] at hn
      rw [if_neg hk3, if_neg hk3]
      by_cases hk4 : x.kind = 4
      · rw [if_pos hk4] at hn
        have : (s.fls ++ [_] : List Fl) = [] := hn
        exact absurd this (by simp)
      · rw [if_neg hk4] at hn
        rw [if_neg hk4]
        exact ⟨hn, rfl, [], by simp, rfl, fun a ha => by cases ha⟩
theorem ev_nil {L : List Nd} {wd : Int} (hu : ∀ i, 1 ≤ (roomP L wd i).2) {s : Gs} {e : Ev} (hn : (evS L wd s e).fls = []) :
    s.fls = [] ∧ (evS L wd s e).pen = penL s.pen (stpE L wd e) ∧ ∃ l, (evS L wd s e).ams = s.ams ++ l ∧ l.map (·.y) = placesL s.pen (stpE L wd e) ∧ ∀ a ∈ l, AtRoom L wd a := by
  cases e with
  | begin_ i =>
    cases hx : L[i]? with
    | none =>
      have e1 : evS L wd s (.begin_ i) = s := by show (match L[i]? with | some x => beginS x s | none => s) = _; rw [hx]
      have e2 : stpE L wd (.begin_ i) = [] := by show (match L[i]? with | some x => ([⟨1, x.sty.top, x.sty.padTop⟩] : List Stp) | none => []) = _; rw [hx]
      rw [e1] at hn
      rw [e1, e2]
      exact ⟨hn, rfl, [], by simp, rfl, fun a ha => by cases ha⟩
    | some x =>
      rw [evS_begin hx] at hn
      rw [evS_begin hx, stpE_begin hx]
      have hf : s.fls = [] := hn
      refine ⟨hf, ?_, [], by simp [beginS], rfl, fun a ha => by cases ha⟩
      show enterP (clearS s.fls x.sty.clear s.pen) x.sty.top x.sty.padTop = stepP s.pen ⟨1, x.sty.top, x.sty.padTop⟩
      rw [hf]
      rfl
  | end_ i =>
    cases hx : L[i]? with
    | none =>
      have e1 : evS L wd s (.end_ i) = s := by show (match L[i]? with | some x => endS x s | none => s) = _; rw [hx]
      have e2 : stpE L wd (.end_ i) = [] := by show (match L[i]? with | some x => ([⟨2, x.sty.bottom, x.sty.padBottom⟩] : List Stp) | none => []) = _; rw [hx]
      rw [e1] at hn
      rw [e1, e2]
      exact ⟨hn, rfl, [], by simp, rfl, fun a ha => by cases ha⟩
    | some x =>
      rw [evS_end hx] at hn
      rw [evS_end hx, stpE_end hx]
      exact ⟨hn, rfl, [], by simp [endS], rfl, fun a ha => by cases ha⟩
  | leaf i =>
    cases hx : L[i]? with
    | none =>
      have e1 : evS L wd s (.leaf i) = s := by show (match L[i]? with | some x => leafS (roomP L wd i) i x s | none => s) = _; rw [hx]
      have e2 : stpE L wd (.leaf i) = [] := by show (match L[i]? with | some x => leafT (roomP L wd i).2 x | none => []) = _; rw [hx]
      rw [e1] at hn
      rw [e1, e2]
      exact ⟨hn, rfl, [], by simp, rfl, fun a ha => by cases ha⟩
    | some x =>
      rw [evS_leaf hx] at hn
      rw [evS_leaf hx, stpE_leaf hx]
      exact leaf_nil hx (hu i) hn
/-- all that happens, without floats. -/
theorem run_nil {L : List Nd} {wd : Int} (hu : ∀ i, 1 ≤ (roomP L wd i).2) (hw : ∀ y ∈ L, y.words.length ≤ 60) : ∀ (es : List Ev) (s : Gs), (runS L wd s es).fls = [] →
    s.fls = [] ∧ (runS L wd s es).pen = penL s.pen (stpsE L wd es) ∧ ∃ l, (runS L wd s es).ams = s.ams ++ l ∧ l.map (·.y) = placesL s.pen (stpsE L wd es) ∧ ∀ a ∈ l, AtRoom L wd a
  | [], s, h => ⟨h, rfl, [], by show s.ams = _; simp, rfl, fun a ha => by cases ha⟩
  | e :: es, s, h => by
    have h' : (runS L wd (evS L wd s e) es).fls = [] := h
    obtain ⟨i1, i2, l2, i3, i4, i5⟩ := run_nil hu hw es (evS L wd s e) h'
    obtain ⟨j1, j2, l1, j3, j4, j5⟩ := ev_nil hu i1
    have hs : stpsE L wd (e :: es) = stpE L wd e ++ stpsE L wd es := rfl
    refine ⟨j1, ?_, l1 ++ l2, ?_, ?_, ?_⟩
    · show (runS L wd (evS L wd s e) es).pen = _
      rw [i2, j2, hs]
      unfold penL
      rw [List.foldl_append]
    · show (runS L wd (evS L wd s e) es).ams = _
      rw [i3, j3, List.append_assoc]
    · rw [List.map_append, i4, j4, hs, placesL_append, j2]
    · intro a ha
      rcases List.mem_append.1 ha with ha | ha
      · exact j5 a ha
      · exact i5 a ha
/-- steps that push a pen down by T at most. -/
structure Push (l : List Stp) (T : Int) : Prop where
  pos : ∀ s ∈ l, (s.kind = 1 ∨ s.kind = 2 ∨ s.kind = 4) ∧ 0 ≤ s.a ∧ 0 ≤ s.b
  sum : (l.map fun s => s.a + s.b).sum ≤ T
theorem sum_pos : ∀ (l : List Int), (∀ z ∈ l, 0 ≤ z) → 0 ≤ l.sum
  | [], _ => Int.le_refl _
  | z :: r, h => by rw [List.sum_cons]; have := h z (by simp); have := sum_pos r (fun y hy => h y (List.mem_cons_of_mem _ hy)); omega
theorem push_pen : ∀ (l : List Stp) {T H : Int} {p : Int × Int}, Push l T → 0 ≤ p.1 → 0 ≤ p.2 → p.1 + p.2 ≤ H → 0 ≤ (penL p l).1 ∧ 0 ≤ (penL p l).2 ∧ (penL p l).1 + (penL p l).2 ≤ H + T
  | [], T, H, p, h, h0, h1, h2 => ⟨h0, h1, by have h9 : (0 : Int) ≤ T := h.sum; show p.1 + p.2 ≤ _; omega⟩
  | s :: r, T, H, p, h, h0, h1, h2 => by
    obtain ⟨hk, ha, hb⟩ := h.pos s (by simp)
    have hs := h.sum
    rw [List.map_cons, List.sum_cons] at hs
    have hr : Push r (T - (s.a + s.b)) := ⟨fun t ht => h.pos t (List.mem_cons_of_mem _ ht), by omega⟩
    show 0 ≤ (penL (stepP p s) r).1 ∧ 0 ≤ (penL (stepP p s) r).2 ∧ (penL (stepP p s) r).1 + (penL (stepP p s) r).2 ≤ H + T
    have hst : 0 ≤ (stepP p s).1 ∧ 0 ≤ (stepP p s).2 ∧ (stepP p s).1 + (stepP p s).2 ≤ H + (s.a + s.b) := by
      unfold stepP
      rcases hk with hk | hk | hk
      · rw [if_pos hk]
        have := enterP_ok h0 h1 h2 ha hb
        exact ⟨this.1, this.2.1, this.2.2.1⟩
      · rw [if_neg (by omega), if_pos hk]
        have := leaveP_ok h0 h1 h2 ha hb
        exact ⟨this.1, this.2.1, this.2.2.1⟩
      · rw [if_neg (by omega), if_neg (by omega), if_neg (by omega), if_pos hk]
        simp only
        omega
    obtain ⟨i1, i2, i3⟩ := push_pen r hr hst.1 hst.2.1 hst.2.2
    exact ⟨i1, i2, by omega⟩
theorem Push.take {l : List Stp} {T : Int} (h : Push l T) (k : Nat) : Push (l.take k) T := by
  refine ⟨fun s hs => h.pos s (List.mem_of_mem_take hs), ?_⟩
  have h2 := h.sum
  have e : l = l.take k ++ l.drop k := (List.take_append_drop k l).symm
  rw [e, List.map_append, List.sum_append] at h2
  have h3 := sum_pos ((l.drop k).map fun s => s.a + s.b) (fun z hz => by
    obtain ⟨s, hs, rfl⟩ := List.mem_map.1 hz
    have := h.pos s (List.mem_of_mem_drop hs)
    omega)
  omega
theorem Push.append {l r : List Stp} {T U : Int} (h : Push l T) (g : Push r U) : Push (l ++ r) (T + U) :=
  ⟨fun s hs => (List.mem_append.1 hs).elim (h.pos s) (g.pos s), by rw [List.map_append, List.sum_append]; have := h.sum; have := g.sum; omega⟩
theorem Push.nil {T : Int} (h : 0 ≤ T) : Push [] T := ⟨fun s hs => (by cases hs), h⟩
theorem push_rep {h : Int} (h0 : 0 ≤ h) : ∀ n : Nat, Push (List.replicate n ⟨4, h, 0⟩) ((n : Int) * h)
  | 0 => Push.nil (by simp)
  | n + 1 => by
    have ih := push_rep h0 n
    rw [List.replicate_succ]
    refine ⟨fun s hs => ?_, ?_⟩
    · rcases List.mem_cons.1 hs with rfl | hs
      · exact ⟨.inr (.inr rfl), h0, Int.le_refl _⟩
      · exact ih.pos s hs
    · rw [List.map_cons, List.sum_cons]
      have := ih.sum
      have e : ((n + 1 : Nat) : Int) * h = (n : Int) * h + h := by rw [Int.natCast_add, Int.add_mul]; simp
      rw [e]
      simp only
      omega
theorem linesF_most {zs : List Int} {sp wd : Int} : ∀ (f a : Nat), (linesF zs sp wd f a).length ≤ f
  | 0, a => Nat.le_refl _
  | f + 1, a => by
    unfold linesF
    split
    · rw [List.length_cons]; have := linesF_most (zs := zs) (sp := sp) (wd := wd) f (endP zs sp wd a); omega
    · simp
theorem linesP_most {zs : List Int} {sp wd : Int} : (linesP zs sp wd 0).length ≤ zs.length := by unfold linesP; exact linesF_most _ _
theorem push_ev {L : List Nd} (hf : ∀ y ∈ L, y.fits) {wd : Int} : ∀ e : Ev, Push (stpE L wd e) (evH L e)
  | .begin_ i => by
    cases hx : L[i]? with
    | none =>
      rw [show stpE L wd (.begin_ i) = [] by show (match L[i]? with | some x => ([⟨1, x.sty.top, x.sty.padTop⟩] : List Stp) | none => []) = _; rw [hx]]
      exact Push.nil (evH_pos hf _)
    | some x =>
      obtain ⟨t1, t2, t3, t4⟩ := sty_all_pos (hf x (List.mem_of_getElem? hx))
      rw [stpE_begin hx, evH_begin hx]
      exact ⟨fun s hs => by simp only [List.mem_singleton] at hs; subst hs; exact ⟨.inl rfl, t1, t3⟩, by simp⟩
  | .end_ i => by
    cases hx : L[i]? with
    | none =>
      rw [show stpE L wd (.end_ i) = [] by show (match L[i]? with | some x => ([⟨2, x.sty.bottom, x.sty.padBottom⟩] : List Stp) | none => []) = _; rw [hx]]
      exact Push.nil (evH_pos hf _)
    | some x =>
      obtain ⟨t1, t2, t3, t4⟩ := sty_all_pos (hf x (List.mem_of_getElem? hx))
      rw [stpE_end hx, evH_end hx]
      exact ⟨fun s hs => by simp only [List.mem_singleton] at hs; subst hs; exact ⟨.inr (.inl rfl), t2, t4⟩, by simp⟩
  | .leaf i => by
    cases hx : L[i]? with
    | none =>
      rw [show stpE L wd (.leaf i) = [] by show (match L[i]? with | some x => leafT (roomP L wd i).2 x | none => []) = _; rw [hx]]
      exact Push.nil (evH_pos hf _)
    | some x =>
      have hxf := hf x (List.mem_of_getElem? hx)
      rw [stpE_leaf hx, evH_leaf hx]
      have hp := evH_pos hf (.leaf i)
      rw [evH_leaf hx] at hp
      unfold leafT
      by_cases hk2 : x.kind = 2
      · rw [if_pos hk2]
        have hl : 0 ≤ x.line := by
          rcases hxf with ⟨h, _⟩ | ⟨_, _, hl, _⟩ | ⟨h, _⟩ | ⟨h, _⟩
          · omega
          · have := hl.1; omega
          · omega
          · omega
        have h1 := push_rep hl (linesP x.words x.space (roomP L wd i).2 0).length
        have h2 := mul_up (linesP_most (zs := x.words) (sp := x.space) (wd := (roomP L wd i).2)) hl
        have h3 : leafH x = x.line * (x.words.length : Int) := by unfold leafH; rw [if_pos hk2]
        exact ⟨h1.pos, by have := h1.sum; omega⟩
      · rw [if_neg hk2]
        by_cases hk3 : x.kind = 3
        · rw [if_pos hk3]
          have hh : leafH x = x.h := by unfold leafH; rw [if_neg hk2]
          exact ⟨fun s hs => by simp only [List.mem_singleton] at hs; subst hs; exact ⟨.inr (.inr rfl), by rw [hh] at hp; exact hp, Int.le_refl _⟩, by rw [hh]; simp⟩
        · rw [if_neg hk3]
          exact Push.nil hp
theorem push_all {L : List Nd} (hf : ∀ y ∈ L, y.fits) {wd : Int} : ∀ es : List Ev, Push (stpsE L wd es) (sumE L es)
  | [] => Push.nil (Int.le_refl _)
  | e :: es => by
    rw [sumE_cons]
    exact (push_ev hf e).append (push_all hf es)
theorem stps_len {L : List Nd} {wd : Int} (hw : ∀ y ∈ L, y.words.length ≤ 60) : ∀ es : List Ev, (stpsE L wd es).length ≤ 60 * es.length
  | [] => Nat.le_refl _
  | e :: es => by
    have hs : stpsE L wd (e :: es) = stpE L wd e ++ stpsE L wd es := rfl
    rw [hs, List.length_append, List.length_cons]
    have ih := stps_len (wd := wd) hw es
    have h1 : (stpE L wd e).length ≤ 60 := by
      cases e with
      | begin_ i =>
        cases hx : L[i]? with
        | none => rw [show stpE L wd (.begin_ i) = [] by show (match L[i]? with | some x => ([⟨1, x.sty.top, x.sty.padTop⟩] : List Stp) | none => []) = _; rw [hx]]; simp
        | some x => rw [stpE_begin hx]; simp
      | end_ i =>
        cases hx : L[i]? with
        | none => rw [show stpE L wd (.end_ i) = [] by show (match L[i]? with | some x => ([⟨2, x.sty.bottom, x.sty.padBottom⟩] : List Stp) | none => []) = _; rw [hx]]; simp
        | some x => rw [stpE_end hx]; simp
      | leaf i =>
        cases hx : L[i]? with
        | none => rw [show stpE L wd (.leaf i) = [] by show (match L[i]? with | some x => leafT (roomP L wd i).2 x | none => []) = _; rw [hx]]; simp
        | some x =>
          rw [stpE_leaf hx]
          unfold leafT
          split
          · rw [List.length_replicate]
            exact Nat.le_trans linesP_most (hw x (List.mem_of_getElem? hx))
          · split <;> simp
    omega
/-- a pen pushed by steps is near, all along. -/
theorem push_near {l : List Stp} {T : Int} (h : Push l T) (hT : T ≤ maxN) : (∀ s ∈ l, s.near) ∧ ∀ k, PenB 0 (penL (0, 0) (l.take k)) := by
  refine ⟨fun s hs => ?_, fun k => ?_⟩
  · obtain ⟨_, ha, hb⟩ := h.pos s hs
    have h2 := h.sum
    obtain ⟨i, hi⟩ := List.getElem?_of_mem hs
    have h3 : s.a + s.b ≤ (l.map fun s => s.a + s.b).sum := by
      have e : l = l.take i ++ l.drop i := (List.take_append_drop i l).symm
      have hd : l.drop i = s :: l.drop (i + 1) := by
        have hlt := (List.getElem?_eq_some_iff.1 hi).1
        rw [List.drop_eq_getElem_cons hlt]
        congr 1
        rw [List.getElem?_eq_getElem hlt] at hi
        injection hi
      rw [e, List.map_append, List.sum_append, hd, List.map_cons, List.sum_cons]
      have p1 := sum_pos ((l.take i).map fun s => s.a + s.b) (fun z hz => by obtain ⟨t, ht, rfl⟩ := List.mem_map.1 hz; have := h.pos t (List.mem_of_mem_take ht); omega)
      have p2 := sum_pos ((l.drop (i + 1)).map fun s => s.a + s.b) (fun z hz => by obtain ⟨t, ht, rfl⟩ := List.mem_map.1 hz; have := h.pos t (List.mem_of_mem_drop ht); omega)
      omega
    exact ⟨by unfold NearI farB maxN at *; omega, by unfold NearI farB maxN at *; omega⟩
  · obtain ⟨h1, h2, h3⟩ := push_pen (p := (0, 0)) (H := 0) _ (h.take k) (Int.le_refl _) (Int.le_refl _) (by simp)
    obtain ⟨⟨y, m⟩, hq⟩ : ∃ q, penL (0, 0) (l.take k) = q := ⟨_, rfl⟩
    rw [hq] at h1 h2 h3 ⊢
    simp only at h1 h2 h3
    exact PenB.start (by unfold NearI farB maxN at *; omega) (by unfold NearI farB maxN at *; omega)
end Go.Proofs.YtdjnaejblgheoaaGreat
