import Derived.Test.YtdjnaejblgheoaaGreatJP01
import Derived.Test.YtdjnaejblgheoaaGreatJP00
/- Numbers of a galley that grows stay small. Nothing of the program stands here. -/
namespace Go.Proofs.YtdjnaejblgheoaaGreat
open Go
set_option linter.unusedVariables false
set_option linter.unusedSimpArgs false
theorem low_from {l0 : List Fl} (sides : Int) : ∀ (l : List Fl) (s : Int × Bool), (∀ f ∈ l, f ∈ l0) → (s.2 = true → ∃ f ∈ l0, s.1 = f.y + f.h) → (l.foldl (lowStep sides) s).2 = true → ∃ f ∈ l0, (l.foldl (lowStep sides) s).1 = f.y + f.h
  | [], s, _, hs, h => hs h
  | f :: r, s, hl, hs, h => by
    refine low_from sides r (lowStep sides s f) (fun g hg => hl g (List.mem_cons_of_mem _ hg)) ?_ h
    intro hq
    unfold lowStep at hq ⊢
    split
    · rename_i h1
      rw [if_pos h1] at hq
      exact hs hq
    · split
      · exact ⟨f, hl f (by simp), rfl⟩
      · rename_i h1 h2
        rw [if_neg h1, if_neg h2] at hq
        exact hs hq
theorem lowest_from {l : List Fl} {sides : Int} (h : (lowestL l sides).2 = true) : ∃ f ∈ l, (lowestL l sides).1 = f.y + f.h := low_from sides l (0, false) (fun f hf => hf) (fun h => by cases h) h
theorem topstep_from {l0 : List Fl} : ∀ (r : List Fl) (b : Int), (∀ f ∈ r, f ∈ l0) → (∃ f ∈ l0, b = f.y) → ∃ f ∈ l0, r.foldl topStep b = f.y
  | [], b, _, hb => hb
  | f :: r, b, hl, hb => by
    refine topstep_from r (topStep b f) (fun g hg => hl g (List.mem_cons_of_mem _ hg)) ?_
    unfold topStep
    split
    · exact ⟨f, hl f (by simp), rfl⟩
    · exact hb
theorem top_from : ∀ {l : List Fl}, l ≠ [] → ∃ f ∈ l, topF l = f.y
  | [], h => absurd rfl h
  | f :: r, _ => topstep_from (l0 := f :: r) r f.y (fun g hg => List.mem_cons_of_mem _ hg) ⟨f, by simp, rfl⟩
/-- a float with small numbers, that ends at H at most. -/
structure FlOk (H : Int) (f : Fl) : Prop where
  side : f.side = 1 ∨ f.side = 2
  x0 : 0 ≤ f.x
  x1 : f.x + f.w ≤ 2199023255552
  w0 : 1 ≤ f.w
  w1 : f.w ≤ maxN
  h0 : 1 ≤ f.h
  h1 : f.h ≤ maxN
  y0 : 0 ≤ f.y
  y1 : f.y + f.h ≤ H
theorem FlOk.mono {H K : Int} {f : Fl} (h : FlOk H f) (hk : H ≤ K) : FlOk K f := ⟨h.side, h.x0, h.x1, h.w0, h.w1, h.h0, h.h1, h.y0, Int.le_trans h.y1 hk⟩
theorem FlOk.near {H : Int} {f : Fl} (h : FlOk H f) (hH : H ≤ maxN) : f.near := by
  obtain ⟨_, h1, h2, h3, h4, h5, h6, h7, h8⟩ := h
  unfold Fl.near NearI farB maxN at *
  omega
/-- a galley with small numbers, that ends at H at most. -/
structure GsOk (H : Int) (s : Gs) : Prop where
  p0 : 0 ≤ s.pen.1
  p1 : 0 ≤ s.pen.2
  p2 : s.place ≤ H
  fls : ∀ f ∈ s.fls, FlOk H f
theorem GsOk.start : GsOk 0 .start := ⟨Int.le_refl _, Int.le_refl _, Int.le_refl _, fun f hf => by cases hf⟩
theorem GsOk.mono {H K : Int} {s : Gs} (h : GsOk H s) (hk : H ≤ K) : GsOk K s := ⟨h.p0, h.p1, Int.le_trans h.p2 hk, fun f hf => (h.fls f hf).mono hk⟩
theorem GsOk.ends {H : Int} {s : Gs} (h : GsOk H s) : ∀ f ∈ s.fls, f.y + f.h ≤ H := fun f hf => (h.fls f hf).y1
theorem GsOk.nears {H : Int} {s : Gs} (h : GsOk H s) (hH : H ≤ maxN) : ∀ f ∈ s.fls, f.near := fun f hf => (h.fls f hf).near hH
theorem GsOk.h0 {H : Int} {s : Gs} (h : GsOk H s) : 0 ≤ H := by have := h.p0; have := h.p1; have := h.p2; unfold Gs.place at this; omega
/-- how high what happens is, at most. -/
def leafH (x : Nd) : Int := if x.kind = 2 then x.line * (x.words.length : Int) else x.h
def evH (L : List Nd) : Ev → Int
  | .begin_ i => match L[i]? with
    | some x => x.sty.top + x.sty.padTop
    | none => 0
  | .end_ i => match L[i]? with
    | some x => x.sty.bottom + x.sty.padBottom
    | none => 0
  | .leaf i => match L[i]? with
    | some x => leafH x
    | none => 0
theorem evH_begin {L : List Nd} {i : Nat} {x : Nd} (hx : L[i]? = some x) : evH L (.begin_ i) = x.sty.top + x.sty.padTop := by
  show (match L[i]? with | some x => x.sty.top + x.sty.padTop | none => 0) = _
  rw [hx]
theorem evH_end {L : List Nd} {i : Nat} {x : Nd} (hx : L[i]? = some x) : evH L (.end_ i) = x.sty.bottom + x.sty.padBottom := by
  show (match L[i]? with | some x => x.sty.bottom + x.sty.padBottom | none => 0) = _
  rw [hx]
theorem evH_leaf {L : List Nd} {i : Nat} {x : Nd} (hx : L[i]? = some x) : evH L (.leaf i) = leafH x := by
  show (match L[i]? with | some x => leafH x | none => 0) = _
  rw [hx]
theorem sty_pos {x : Nd} (h : x.fits) (hk : x.kind = 1) : 0 ≤ x.sty.top ∧ 0 ≤ x.sty.bottom ∧ 0 ≤ x.sty.padTop ∧ 0 ≤ x.sty.padBottom ∧ 0 ≤ x.sty.head := by
  rcases h with ⟨_, hs, _⟩ | ⟨h, _⟩ | ⟨h, _⟩ | ⟨h, _⟩
  · obtain ⟨⟨h1, h2, h3, h4, _⟩, _, h5, _⟩ := hs
    unfold okN at *
    omega
  · omega
  · omega
  · omega
theorem sty_all_pos {x : Nd} (h : x.fits) : 0 ≤ x.sty.top ∧ 0 ≤ x.sty.bottom ∧ 0 ≤ x.sty.padTop ∧ 0 ≤ x.sty.padBottom := by
  by_cases hk : x.kind = 1
  · have := sty_pos h hk; omega
  · rcases h with ⟨h, _⟩ | ⟨_, hs, _⟩ | ⟨_, hs, _⟩ | ⟨_, hs, _⟩
    · exact absurd h hk
    all_goals
      rw [hs]; unfold Sty.none; simp
theorem clearS_ok {H : Int} {s : Gs} (h : GsOk H s) (sides : Int) : 0 ≤ (clearS s.fls sides s.pen).1 ∧ 0 ≤ (clearS s.fls sides s.pen).2 ∧ (clearS s.fls sides s.pen).1 + (clearS s.fls sides s.pen).2 ≤ H ∧ s.place ≤ (clearS s.fls sides s.pen).1 + (clearS s.fls sides s.pen).2 := by
  have h0 := h.p0
  have h1 := h.p1
  have h2 := h.p2
  unfold Gs.place at *
  unfold clearS
  split
  · rename_i hl
    obtain ⟨f, hf, he⟩ := lowest_from hl
    have := h.ends f hf
    unfold clearP
    split
    · simp only
      omega
    · exact ⟨h0, h1, h2, Int.le_refl _⟩
  · exact ⟨h0, h1, h2, Int.le_refl _⟩
theorem enterP_ok {p : Int × Int} {a d H : Int} (h0 : 0 ≤ p.1) (h1 : 0 ≤ p.2) (h2 : p.1 + p.2 ≤ H) (ha : 0 ≤ a) (hd : 0 ≤ d) : 0 ≤ (enterP p a d).1 ∧ 0 ≤ (enterP p a d).2 ∧ (enterP p a d).1 + (enterP p a d).2 ≤ H + (a + d) ∧ p.1 + p.2 ≤ (enterP p a d).1 + (enterP p a d).2 := by
  unfold enterP raiseI
  split <;> split <;> simp only <;> omega
theorem leaveP_ok {p : Int × Int} {a d H : Int} (h0 : 0 ≤ p.1) (h1 : 0 ≤ p.2) (h2 : p.1 + p.2 ≤ H) (ha : 0 ≤ a) (hd : 0 ≤ d) : 0 ≤ (leaveP p a d).1 ∧ 0 ≤ (leaveP p a d).2 ∧ (leaveP p a d).1 + (leaveP p a d).2 ≤ H + (a + d) ∧ p.1 + p.2 ≤ (leaveP p a d).1 + (leaveP p a d).2 := by
  unfold leaveP raiseI
  split <;> split <;> simp only <;> omega
theorem begin_ok {H : Int} {s : Gs} {x : Nd} (h : GsOk H s) (hx : x.fits) : GsOk (H + (x.sty.top + x.sty.padTop)) (beginS x s) ∧ s.place ≤ (beginS x s).place := by
  obtain ⟨t1, t2, t3, t4⟩ := sty_all_pos hx
  obtain ⟨c0, c1, c2, c3⟩ := clearS_ok h x.sty.clear
  obtain ⟨e0, e1, e2, e3⟩ := enterP_ok c0 c1 c2 t1 t3
  exact ⟨⟨e0, e1, e2, fun f hf => (h.fls f hf).mono (by omega)⟩, Int.le_trans c3 e3⟩
theorem end_ok {H : Int} {s : Gs} {x : Nd} (h : GsOk H s) (hx : x.fits) : GsOk (H + (x.sty.bottom + x.sty.padBottom)) (endS x s) ∧ s.place ≤ (endS x s).place := by
  obtain ⟨t1, t2, t3, t4⟩ := sty_all_pos hx
  obtain ⟨e0, e1, e2, e3⟩ := leaveP_ok h.p0 h.p1 h.p2 t2 t4
  exact ⟨⟨e0, e1, e2, fun f hf => (h.fls f hf).mono (by omega)⟩, e3⟩
/-- the pen behind a text's lines. -/
theorem lns_pen {l : List Fl} {ws : List Int} {sp h a b : Int} (h0 : 0 ≤ h) : ∀ (f i : Nat) (y M : Int) (p : Int × Int), (∀ g ∈ l, g.y + g.h ≤ M) → y ≤ M → 0 ≤ p.1 → 0 ≤ p.2 → p.1 + p.2 = y →
    0 ≤ (penLns h p (lnsF l ws sp h a b f i y)).1 ∧ 0 ≤ (penLns h p (lnsF l ws sp h a b f i y)).2 ∧ y ≤ (penLns h p (lnsF l ws sp h a b f i y)).1 + (penLns h p (lnsF l ws sp h a b f i y)).2 ∧ (penLns h p (lnsF l ws sp h a b f i y)).1 + (penLns h p (lnsF l ws sp h a b f i y)).2 ≤ M + ((lnsF l ws sp h a b f i y).length : Int) * h
  | 0, i, y, M, p, hM, hy, p0, p1, hp => by
    show 0 ≤ p.1 ∧ 0 ≤ p.2 ∧ y ≤ p.1 + p.2 ∧ p.1 + p.2 ≤ M + ((0 : Nat) : Int) * h
    refine ⟨p0, p1, by omega, by simp; omega⟩
  | f + 1, i, y, M, p, hM, hy, p0, p1, hp => by
    unfold lnsF
    by_cases hi : i < ws.length
    · rw [if_pos hi]
      have hy2 : (lineL l ws sp h a b i y).y = seekE l h (wordI ws i) a b y := rfl
      have hge : y ≤ (lineL l ws sp h a b i y).y := by rw [hy2]; exact seekE_ge _
      have hle : (lineL l ws sp h a b i y).y ≤ M := by rw [hy2]; exact seekE_le hM hy
      have ih := lns_pen (l := l) (ws := ws) (sp := sp) (a := a) (b := b) h0 f (lineL l ws sp h a b i y).to_.toNat ((lineL l ws sp h a b i y).y + h) (M + h) ((lineL l ws sp h a b i y).y + h, 0) (fun g hg => by have := hM g hg; omega) (by omega) (by simp only; omega) (Int.le_refl _) (by simp)
      have e : penLns h p (lineL l ws sp h a b i y :: lnsF l ws sp h a b f (lineL l ws sp h a b i y).to_.toNat ((lineL l ws sp h a b i y).y + h)) = penLns h ((lineL l ws sp h a b i y).y + h, 0) (lnsF l ws sp h a b f (lineL l ws sp h a b i y).to_.toNat ((lineL l ws sp h a b i y).y + h)) := rfl
      rw [e]
      obtain ⟨i0, i1, i2, i3⟩ := ih
      refine ⟨i0, i1, by omega, ?_⟩
      rw [List.length_cons, Int.natCast_add, Int.add_mul]
      simp only [Int.natCast_one, Int.one_mul]
      omega
    · rw [if_neg hi]
      show 0 ≤ p.1 ∧ 0 ≤ p.2 ∧ y ≤ p.1 + p.2 ∧ p.1 + p.2 ≤ M + ((0 : Nat) : Int) * h
      refine ⟨p0, p1, by omega, by simp; omega⟩
theorem mul_up {a b : Nat} {h : Int} (hab : a ≤ b) (h0 : 0 ≤ h) : (a : Int) * h ≤ h * (b : Int) := by
  rw [Int.mul_comm]
  exact Int.mul_le_mul_of_nonneg_left (by omega) h0
theorem text_ok {H : Int} {s : Gs} {x : Nd} {rm : Int × Int} {i : Nat} (h : GsOk H s) (hl : 0 ≤ x.line) : GsOk (H + x.line * (x.words.length : Int)) (textS rm i x s) ∧ s.place ≤ (textS rm i x s).place := by
  obtain ⟨i0, i1, i2, i3⟩ := lns_pen (l := s.fls) (ws := x.words) (sp := x.space) (a := rm.1) (b := rm.1 + rm.2) hl (x.words.length - 0) 0 s.place H s.pen h.ends h.p2 h.p0 h.p1 rfl
  have hm := mul_up (lnsL_most (l := s.fls) (ws := x.words) (sp := x.space) (h := x.line) (a := rm.1) (b := rm.1 + rm.2) s.place) hl
  have hn : 0 ≤ x.line * (x.words.length : Int) := Int.mul_nonneg hl (by omega)
  unfold lnsL at hm
  exact ⟨⟨i0, i1, Int.le_trans i3 (by omega), fun f hf => (h.fls f hf).mono (by omega)⟩, i2⟩
theorem box_ok {H : Int} {s : Gs} {x : Nd} {rm : Int × Int} {i : Nat} (h : GsOk H s) (hl : 0 ≤ x.h) : GsOk (H + x.h) (boxS rm i x s) ∧ s.place ≤ boxY rm x s ∧ boxY rm x s ≤ H := by
  have hge : s.place ≤ boxY rm x s := seekE_ge _
  have hle : boxY rm x s ≤ H := seekE_le h.ends h.p2
  have h0 : 0 ≤ s.place := by have := h.p0; have := h.p1; unfold Gs.place; omega
  exact ⟨⟨by show 0 ≤ boxY rm x s + x.h; omega, Int.le_refl _, by show boxY rm x s + x.h + 0 ≤ _; omega, fun f hf => (h.fls f hf).mono (by omega)⟩, hge, hle⟩
/-- where a float comes to stand. -/
theorem fits_place {l : List Fl} {h w a b y : Int} (hab : a ≤ b) (hw : 1 ≤ w) : (fitsF l h w a b y = true → a ≤ (bandL l y h (a, b)).1 ∧ (bandL l y h (a, b)).1 + w ≤ (bandL l y h (a, b)).2 ∧ (bandL l y h (a, b)).2 ≤ b) := by
  intro hf
  obtain ⟨m1, m2⟩ := bandL_mono (y := y) (h := h) l (a, b)
  unfold fitsF lenW at hf
  have := of_decide_eq_true hf
  split at this
  · omega
  · exact ⟨m1, by omega, m2⟩
theorem seekE_end {l : List Fl} {h w a b : Int} : ∀ (k : Nat) (y : Int), cntA l y ≤ k → fitsF l h w a b (seekE l h w a b y) = true ∨ (fitsF l h w a b (seekE l h w a b y) = false ∧ (nextL l (seekE l h w a b y) h a b).2 = false) := by
  intro k
  induction k with
  | zero =>
    intro y hk
    have hv : (nextL l y h a b).2 = false := by
      cases hv : (nextL l y h a b).2 with
      | false => rfl
      | true => have := cnt_next hv; omega
    by_cases hf : fitsF l h w a b y = true
    · rw [seekE_fits hf]; exact .inl hf
    · have hf' : fitsF l h w a b y = false := by simpa using hf
      rw [seekE_none hf' hv]; exact .inr ⟨hf', hv⟩
  | succ k ih =>
    intro y hk
    by_cases hf : fitsF l h w a b y = true
    · rw [seekE_fits hf]; exact .inl hf
    · have hf' : fitsF l h w a b y = false := by simpa using hf
      cases hv : (nextL l y h a b).2 with
      | false => rw [seekE_none hf' hv]; exact .inr ⟨hf', hv⟩
      | true =>
        rw [seekE_next hf' hv]
        exact ih _ (by have := cnt_next hv; omega)
/-- it has room there, and stands within; or nothing narrows the whole span, which isn't as wide as it. -/
theorem seekE_stands {l : List Fl} {h w a b y : Int} (hab : a ≤ b) (hw : 1 ≤ w) :
    (a ≤ (bandL l (seekE l h w a b y) h (a, b)).1 ∧ (bandL l (seekE l h w a b y) h (a, b)).1 + w ≤ (bandL l (seekE l h w a b y) h (a, b)).2 ∧ (bandL l (seekE l h w a b y) h (a, b)).2 ≤ b) ∨
    (bandL l (seekE l h w a b y) h (a, b) = (a, b) ∧ b - a < w) := by
  rcases seekE_end (l := l) (h := h) (w := w) (a := a) (b := b) _ y (Nat.le_refl _) with hf | ⟨hf, hv⟩
  · exact .inl (fits_place hab hw hf)
  · right
    have hb := next_none_whole hv
    refine ⟨hb, ?_⟩
    unfold fitsF lenW at hf
    rw [hb] at hf
    have := of_decide_eq_false hf
    simp only at this
    split at this <;> omega
theorem spot_stands {l : List Fl} {f : Fl} {y a b : Int} (hab : a ≤ b) (hw : 1 ≤ f.w) (hs : f.side = 1 ∨ f.side = 2) : a ≤ spotX l f y a b ∧ (spotX l f y a b + f.w ≤ b ∨ (spotX l f y a b = a ∧ b - a < f.w)) := by
  unfold spotX
  rw [spotY_seek]
  rcases seekE_stands (l := l) (h := f.h) (w := f.w) (y := startY l y) hab hw with ⟨h1, h2, h3⟩ | ⟨h1, h2⟩
  · split
    · exact ⟨h1, .inl (by omega)⟩
    · exact ⟨by omega, .inl (by omega)⟩
  · rw [h1]
    simp only
    split
    · exact ⟨Int.le_refl _, .inr ⟨rfl, h2⟩⟩
    · exact ⟨by omega, .inr ⟨by omega, h2⟩⟩
theorem startY_bds {l : List Fl} {H : Int} (h : ∀ f ∈ l, FlOk H f) {y : Int} (hy : y ≤ H) : y ≤ startY l y ∧ startY l y ≤ H := by
  unfold startY
  split
  · rename_i hc
    refine ⟨by omega, ?_⟩
    have hne : l ≠ [] := by
      intro e
      subst e
      have := hc.1
      simp [topL] at this
    obtain ⟨g, hg, he⟩ := top_from hne
    have := h g hg
    have := this.y1
    have := (h g hg).h0
    show topF l ≤ H
    omega
  · exact ⟨Int.le_refl _, hy⟩
theorem spotY_bds {l : List Fl} {H : Int} (h : ∀ f ∈ l, FlOk H f) (f : Fl) {y a b : Int} (hy : y ≤ H) : startY l y ≤ spotY l f y a b ∧ spotY l f y a b ≤ H := by
  rw [spotY_seek]
  exact ⟨seekE_ge _, seekE_le (fun g hg => (h g hg).y1) (startY_bds h hy).2⟩
theorem float_ok {H : Int} {s : Gs} {x : Nd} {rm : Int × Int} {i : Nat} (h : GsOk H s) (hr0 : 0 ≤ rm.1) (hr1 : rm.1 ≤ maxX) (hr2 : 1 ≤ rm.2) (hr3 : rm.2 ≤ maxX) (hw0 : 1 ≤ x.w) (hw1 : x.w ≤ maxN) (hh0 : 1 ≤ x.h) (hh1 : x.h ≤ maxN) (hs : x.side = 1 ∨ x.side = 2) :
    GsOk (H + x.h) (floatS rm i x s) := by
  have h0 : 0 ≤ s.place := by have := h.p0; have := h.p1; unfold Gs.place; omega
  refine ⟨h.p0, h.p1, Int.le_trans h.p2 (by omega), fun f hf => ?_⟩
  rcases List.mem_append.1 hf with hf | hf
  · exact (h.fls f hf).mono (by omega)
  · simp only [List.mem_singleton] at hf
    subst hf
    obtain ⟨s1, s2⟩ := spot_stands (l := s.fls) (f := ⟨(i : Int), x.side, (s.ams.length : Int), 0, 0, x.w, x.h⟩) (y := s.place) (a := rm.1) (b := rm.1 + rm.2) (by omega) hw0 hs
    obtain ⟨t1, t2⟩ := startY_bds h.fls h.p2
    obtain ⟨t3, t4⟩ := spotY_bds h.fls ⟨(i : Int), x.side, (s.ams.length : Int), 0, 0, x.w, x.h⟩ (a := rm.1) (b := rm.1 + rm.2) h.p2
    unfold maxX maxN at *
    simp only at s2
    exact ⟨hs, by simp only; omega, by simp only; omega, hw0, hw1, hh0, hh1, by simp only; omega, by simp only; omega⟩
end Go.Proofs.YtdjnaejblgheoaaGreat
/- All that happens: how high it is, how much it makes. Nothing of the program stands here. -/
namespace Go.Proofs.YtdjnaejblgheoaaGreat
open Go
set_option linter.unusedVariables false
set_option linter.unusedSimpArgs false
/-- rows that end at e: no node from i on goes farther. -/
def Clo (L : List Nd) (i e : Nat) : Prop := e ≤ L.length ∧ ∀ (k : Nat) (x : Nd), i ≤ k → k < e → L[k]? = some x → nxt k x ≤ e
theorem Clo.all {L : List Nd} (hn : Nested L) : Clo L 0 L.length := ⟨Nat.le_refl _, fun k x _ _ hx => (nxt_of hn hx).2⟩
theorem Clo.inner {L : List Nd} (hn : Nested L) {i : Nat} {x : Nd} (hx : L[i]? = some x) (hk : x.kind = 1) : Clo L (i + 1) (nxt i x) :=
  ⟨(nxt_of hn hx).2, fun k y h1 h2 hy => nxt_in hn hy hx hk (by omega) h2⟩
theorem Clo.next {L : List Nd} {i e : Nat} {x : Nd} (h : Clo L i e) (hx : L[i]? = some x) : Clo L (nxt i x) e := ⟨h.1, fun k y h1 h2 hy => h.2 k y (by have := nxt_lt i x; omega) h2 hy⟩
theorem Clo.at_ {L : List Nd} {i e : Nat} (h : Clo L i e) (hi : i < e) : ∃ x, L[i]? = some x ∧ nxt i x ≤ e := by
  have hlt : i < L.length := Nat.lt_of_lt_of_le hi h.1
  exact ⟨L[i], List.getElem?_eq_getElem hlt, h.2 i L[i] (Nat.le_refl _) hi (List.getElem?_eq_getElem hlt)⟩
theorem ev_ind {L : List Nd} (hn : Nested L) {P : Nat → Nat → Prop} (h0 : ∀ i e, e ≤ i → P i e)
    (h1 : ∀ (i e : Nat) (x : Nd), i < e → L[i]? = some x → nxt i x ≤ e → (x.kind = 1 → P (i + 1) (nxt i x)) → P (nxt i x) e → P i e) : ∀ (d i e : Nat), e ≤ i + d → Clo L i e → P i e
  | 0, i, e, hd, _ => h0 i e (by omega)
  | d + 1, i, e, hd, hc => by
    by_cases hi : i < e
    · obtain ⟨x, hx, hle⟩ := hc.at_ hi
      have hl := nxt_lt i x
      exact h1 i e x hi hx hle (fun hk => ev_ind hn h0 h1 d (i + 1) (nxt i x) (by omega) (Clo.inner hn hx hk)) (ev_ind hn h0 h1 d (nxt i x) e (by omega) (hc.next hx))
    · exact h0 i e (by omega)
/-- how high all that happens is. -/
def sumE (L : List Nd) (es : List Ev) : Int := (es.map (evH L)).sum
theorem sumE_nil (L : List Nd) : sumE L [] = 0 := rfl
theorem sumE_cons (L : List Nd) (e : Ev) (es : List Ev) : sumE L (e :: es) = evH L e + sumE L es := by unfold sumE; rw [List.map_cons, List.sum_cons]
theorem sumE_append (L : List Nd) (a b : List Ev) : sumE L (a ++ b) = sumE L a + sumE L b := by unfold sumE; rw [List.map_append, List.sum_append]
theorem evH_pos {L : List Nd} (hf : ∀ y ∈ L, y.fits) : ∀ e : Ev, 0 ≤ evH L e
  | .begin_ i => by
    cases hx : L[i]? with
    | none => show 0 ≤ (match L[i]? with | some x => x.sty.top + x.sty.padTop | none => 0); rw [hx]; exact Int.le_refl _
    | some x =>
      rw [evH_begin hx]
      have := sty_all_pos (hf x (List.mem_of_getElem? hx))
      omega
  | .end_ i => by
    cases hx : L[i]? with
    | none => show 0 ≤ (match L[i]? with | some x => x.sty.bottom + x.sty.padBottom | none => 0); rw [hx]; exact Int.le_refl _
    | some x =>
      rw [evH_end hx]
      have := sty_all_pos (hf x (List.mem_of_getElem? hx))
      omega
  | .leaf i => by
    cases hx : L[i]? with
    | none => show 0 ≤ (match L[i]? with | some x => leafH x | none => 0); rw [hx]; exact Int.le_refl _
    | some x =>
      rw [evH_leaf hx]
      unfold leafH
      rcases hf x (List.mem_of_getElem? hx) with ⟨hk, _, h1, _, _, _, h2, _⟩ | ⟨hk, _, h1, _⟩ | ⟨hk, _, _, _, _, _, h1, _⟩ | ⟨hk, _, _, _, _, _, h1, _⟩
      · rw [if_neg (by omega)]; omega
      · rw [if_pos hk]; have := h1.1; exact Int.mul_nonneg (by omega) (by omega)
      · rw [if_neg (by omega)]; have := h1.1; omega
      · rw [if_neg (by omega)]; have := h1.1; omega
theorem sumE_pos {L : List Nd} (hf : ∀ y ∈ L, y.fits) : ∀ es : List Ev, 0 ≤ sumE L es
  | [] => Int.le_refl _
  | e :: es => by rw [sumE_cons]; have := evH_pos hf e; have := sumE_pos hf es; omega
theorem highN_leaf {x : Nd} (hk : x.kind ≠ 1) : highN x = leafH x := by
  unfold highN leafH
  rw [if_neg hk]
theorem sumE_le {L : List Nd} (hn : Nested L) (hf : ∀ y ∈ L, y.fits) : ∀ (d i e : Nat), e ≤ i + d → Clo L i e → i ≤ e → sumE L (evN L i e) ≤ sumI highN (L.take e) - sumI highN (L.take i) := by
  intro d i e hd hc
  refine ev_ind hn (P := fun i e => i ≤ e → sumE L (evN L i e) ≤ sumI highN (L.take e) - sumI highN (L.take i)) ?_ ?_ d i e hd hc
  · intro i e he hi
    obtain rfl : i = e := by omega
    rw [evN_end (Nat.le_refl _), sumE_nil]
    omega
  · intro i e x hi hx hle hin hnx _
    have hl := nxt_lt i x
    have h2 := hnx hle
    have h3 := sumI_take highN hx
    rw [evN_step hi hx hle, sumE_append]
    by_cases hk : x.kind = 1
    · have h4 := hin hk (by omega)
      unfold ev1
      rw [if_pos hk, sumE_cons, sumE_append, sumE_cons, sumE_nil, evH_begin hx, evH_end hx]
      have h5 : highN x = x.sty.top + x.sty.bottom + x.sty.padTop + x.sty.padBottom + x.sty.head := by unfold highN; rw [if_pos hk]
      have h6 := (sty_pos (hf x (List.mem_of_getElem? hx)) hk).2.2.2.2
      omega
    · unfold ev1
      rw [if_neg hk, sumE_cons, sumE_nil, evH_leaf hx, ← highN_leaf hk]
      rw [nxt_leaf hn hx hk] at h2 ⊢
      omega
theorem sumE_all {L : List Nd} (hn : Nested L) (hf : ∀ y ∈ L, y.fits) : sumE L (evN L 0 L.length) ≤ sumI highN L := by
  have := sumE_le hn hf L.length 0 L.length (by omega) (Clo.all hn) (by omega)
  rw [List.take_length] at this
  simpa [sumI_nil] using this
/-- one thing more. -/
theorem ev_ok {L : List Nd} (hf : ∀ y ∈ L, y.fits) {w H : Int} (h1 : 1 ≤ w) (h2 : w ≤ maxX) {s : Gs} (h : GsOk H s) : ∀ e : Ev, GsOk (H + evH L e) (evS L w s e)
  | .begin_ i => by
    cases hx : L[i]? with
    | none =>
      show GsOk (H + (match L[i]? with | some x => x.sty.top + x.sty.padTop | none => 0)) (match L[i]? with | some x => beginS x s | none => s)
      rw [hx]; simpa using h
    | some x => rw [evH_begin hx, evS_begin hx]; exact (begin_ok h (hf x (List.mem_of_getElem? hx))).1
  | .end_ i => by
    cases hx : L[i]? with
    | none =>
      show GsOk (H + (match L[i]? with | some x => x.sty.bottom + x.sty.padBottom | none => 0)) (match L[i]? with | some x => endS x s | none => s)
      rw [hx]; simpa using h
    | some x => rw [evH_end hx, evS_end hx]; exact (end_ok h (hf x (List.mem_of_getElem? hx))).1
  | .leaf i => by
    cases hx : L[i]? with
    | none =>
      show GsOk (H + (match L[i]? with | some x => leafH x | none => 0)) (match L[i]? with | some x => leafS (roomP L w i) i x s | none => s)
      rw [hx]; simpa using h
    | some x =>
      rw [evH_leaf hx, evS_leaf hx]
      obtain ⟨r0, r1, r2, r3⟩ := room_bd hf h1 h2 i
      unfold leafH leafS
      rcases hf x (List.mem_of_getElem? hx) with ⟨hk, _, _, _, _, _, hh, _⟩ | ⟨hk, _, hl, _⟩ | ⟨hk, _, _, _, _, hw, hh, _⟩ | ⟨hk, _, _, _, _, hw, hh, hs⟩
      · rw [if_neg (by omega), if_neg (by omega), if_neg (by omega), if_neg (by omega), hh]; simpa using h
      · rw [if_pos hk, if_pos hk]; have := hl.1; exact (text_ok h (by omega)).1
      · rw [if_neg (by omega), if_neg (by omega), if_pos hk]; have := hh.1; exact (box_ok h (by omega)).1
      · rw [if_neg (by omega), if_neg (by omega), if_neg (by omega), if_pos hk]
        exact float_ok h r0 r1 r2 (by omega) hw.1 hw.2 hh.1 hh.2 (by have := hs.1; have := hs.2; omega)
theorem run_ok {L : List Nd} (hf : ∀ y ∈ L, y.fits) {w : Int} (h1 : 1 ≤ w) (h2 : w ≤ maxX) : ∀ (es : List Ev) {H : Int} {s : Gs}, GsOk H s → GsOk (H + sumE L es) (runS L w s es)
  | [], H, s, h => by rw [sumE_nil]; simpa [runS] using h
  | e :: es, H, s, h => by
    rw [sumE_cons, ← Int.add_assoc]
    exact run_ok hf h1 h2 es (ev_ok hf h1 h2 h e)
/-- how much it makes, at most. -/
theorem evS_len {L : List Nd} {w : Int} (hw : ∀ y ∈ L, y.words.length ≤ 60) (s : Gs) : ∀ e : Ev, (evS L w s e).ams.length ≤ s.ams.length + 60 ∧ (evS L w s e).fls.length ≤ s.fls.length + 1 ∧ s.ams.length ≤ (evS L w s e).ams.length ∧ s.fls.length ≤ (evS L w s e).fls.length
  | .begin_ i => by
    cases hx : L[i]? with
    | none => rw [show evS L w s (.begin_ i) = s by show (match L[i]? with | some x => beginS x s | none => s) = _; rw [hx]]; omega
    | some x => rw [evS_begin hx]; unfold beginS; simp only; omega
  | .end_ i => by
    cases hx : L[i]? with
    | none => rw [show evS L w s (.end_ i) = s by show (match L[i]? with | some x => endS x s | none => s) = _; rw [hx]]; omega
    | some x => rw [evS_end hx]; unfold endS; simp only; omega
  | .leaf i => by
    cases hx : L[i]? with
    | none => rw [show evS L w s (.leaf i) = s by show (match L[i]? with | some x => leafS (roomP L w i) i x s | none => s) = _; rw [hx]]; omega
    | some x =>
      rw [evS_leaf hx]
      have hb := hw x (List.mem_of_getElem? hx)
      have hm := lnsL_most (l := s.fls) (ws := x.words) (sp := x.space) (h := x.line) (a := (roomP L w i).1) (b := (roomP L w i).1 + (roomP L w i).2) s.place
      unfold leafS
      split
      · unfold textS; simp only [List.length_append, List.length_map]; omega
      · split
        · unfold boxS; simp only [List.length_append, List.length_cons, List.length_nil]; omega
        · split
          · unfold floatS putL; simp only [List.length_append, List.length_cons, List.length_nil]; omega
          · omega
theorem runS_len {L : List Nd} {w : Int} (hw : ∀ y ∈ L, y.words.length ≤ 60) : ∀ (es : List Ev) (s : Gs), (runS L w s es).ams.length ≤ s.ams.length + 60 * es.length ∧ (runS L w s es).fls.length ≤ s.fls.length + es.length ∧ s.ams.length ≤ (runS L w s es).ams.length ∧ s.fls.length ≤ (runS L w s es).fls.length
  | [], s => by show s.ams.length ≤ _ ∧ s.fls.length ≤ _ ∧ _ ≤ s.ams.length ∧ _ ≤ s.fls.length; omega
  | e :: es, s => by
    have h1 := evS_len (w := w) hw s e
    have h2 := runS_len (w := w) hw es (evS L w s e)
    have e1 : runS L w s (e :: es) = runS L w (evS L w s e) es := rfl
    rw [e1, List.length_cons]
    omega
theorem evN_len {L : List Nd} (hn : Nested L) : ∀ (d i e : Nat), e ≤ i + d → Clo L i e → (evN L i e).length ≤ 2 * (e - i) := by
  intro d i e hd hc
  refine ev_ind hn (P := fun i e => (evN L i e).length ≤ 2 * (e - i)) ?_ ?_ d i e hd hc
  · intro i e he
    rw [evN_end he]; simp
  · intro i e x hi hx hle hin hnx
    have hl := nxt_lt i x
    rw [evN_step hi hx hle, List.length_append]
    by_cases hk : x.kind = 1
    · have h4 := hin hk
      unfold ev1
      rw [if_pos hk]
      simp only [List.length_cons, List.length_append, List.length_nil]
      omega
    · unfold ev1
      rw [if_neg hk]
      simp only [List.length_cons, List.length_nil]
      omega
end Go.Proofs.YtdjnaejblgheoaaGreat
/- Floats in a row that is written, one number at a time: what a galley's last step makes of them. Nothing of the program stands here. -/
namespace Go.Proofs.YtdjnaejblgheoaaGreat
open Go Go.RowKit
set_option linter.unusedVariables false
set_option linter.unusedSimpArgs false
/-- block g holds these floats, none of their cells frozen. -/
structure FlsAt (w : World) (g : Nat) (l : List Fl) : Prop where
  lt : g < w.heap.size
  cell : ∀ (i : Nat) (x : Fl), l[i]? = some x → ∀ (j : Nat) (v : Value), (encFl x)[j]? = some v → w.cell? ⟨g, i * 7 + j, none⟩ = some v
  free : ∀ o, o < l.length * 7 → w.frozen? ⟨g, o, none⟩ = false
theorem FlsAt.of_owns {w : World} {B : Nat} {e : TypeId} {A : Option Addr} {n c : Nat} {l : List Fl} (h : w.ownsRow B e 7 (.slice A n c) n (l.flatMap encFl)) (hn : 0 < n) : ∃ g, A = some ⟨g, 0, none⟩ ∧ B ≤ g ∧ FlsAt w g l := by
  have hr := ownsRow_rows encFl_len (by decide) h
  rcases h.2 with ⟨h1, h2⟩ | ⟨g, cap, cur, h1, h2, h3, h4⟩
  · omega
  · injection h1 with h1
    subst h1
    refine ⟨g, rfl, h2, (Array.getElem?_eq_some_iff.1 h3).1, fun i x hx j v hv => ?_, fun o ho => ?_⟩
    · obtain ⟨b, off, e1, _, hc⟩ := hr.2.2 hn
      injection e1 with e1
      injection e1 with e2 e3
      subst e2 e3
      have := hc i x hx j v hv
      rw [Nat.zero_add] at this
      exact this
    · simp [World.frozen?, h3]
theorem FlsAt.below {w w' : World} {g : Nat} {l : List Fl} (h : FlsAt w g l) (hb : Below w.heap.size w w') : FlsAt w' g l :=
  ⟨Nat.lt_of_lt_of_le h.lt hb.size, fun i x hx j v hv => (below_cell hb h.lt).trans (h.cell i x hx j v hv), fun o ho => (hb.frozen (p := ⟨g, o, none⟩) h.lt).trans (h.free o ho)⟩
theorem FlsAt.other {w : World} {g k j : Nat} {l : List Fl} (h : FlsAt w g l) (hk : k ≠ g) (v : Value) : FlsAt (w.setCell ⟨k, j, none⟩ v) g l :=
  ⟨by simpa using h.lt, fun i x hx j' v' hv => by rw [World.cell?_setCell_other _ _ _ _ (fun e => hk (by injection e))]; exact h.cell i x hx j' v' hv, fun o ho => by rw [World.frozen?_setCell]; exact h.free o ho⟩
/-- one float's anchor is written. -/
theorem FlsAt.anchor {w : World} {g k : Nat} {l : List Fl} {x : Fl} (h : FlsAt w g l) (hx : l[k]? = some x) (a : Int) : FlsAt (w.setCell ⟨g, k * 7 + 2, none⟩ (.int .i64 a)) g (l.set k { x with anchor := a }) := by
  have hk : k < l.length := (List.getElem?_eq_some_iff.1 hx).1
  refine ⟨by simpa using h.lt, fun i y hy j v hv => ?_, fun o ho => by rw [World.frozen?_setCell]; exact h.free o (by simpa using ho)⟩
  have hj : j < 7 := by have := (List.getElem?_eq_some_iff.1 hv).1; rw [encFl_len] at this; exact this
  by_cases hik : k = i
  · subst hik
    rw [List.getElem?_set_self hk] at hy
    injection hy with hy
    subst hy
    by_cases hj2 : j = 2
    · subst hj2
      simp [encFl] at hv
      subst hv
      exact World.cell?_setCell_same _ _ _ (h.cell k x hx 2 _ rfl)
    · rw [World.cell?_setCell_other _ _ _ _ (fun e => hj2 (by injection e with _ e; omega))]
      refine h.cell k x hx j v ?_
      match j, hj2 with
      | 0, _ => exact hv
      | 1, _ => exact hv
      | 3, _ => exact hv
      | 4, _ => exact hv
      | 5, _ => exact hv
      | 6, _ => exact hv
      | j + 7, _ => omega
  · rw [List.getElem?_set_ne hik] at hy
    rw [World.cell?_setCell_other _ _ _ _ (fun e => hik (by injection e with _ e; omega))]
    exact h.cell i y hy j v hv
theorem FlsAt.rows {w : World} {g n : Nat} {l : List Fl} (h : FlsAt w g l) (hn : l.length = n) (hm : n ≤ 1000) : Rows 7 encFl w (some ⟨g, 0, none⟩) n l :=
  ⟨hn, by omega, fun _ => ⟨g, 0, rfl, h.lt, fun i x hx j v hv => by rw [Nat.zero_add]; exact h.cell i x hx j v hv⟩⟩
/-- the first k floats' anchors are told; the others' aren't yet. -/
def anchTo (a : Int) (l : List Fl) (k : Nat) : List Fl := (l.take k).map (anchF a) ++ l.drop k
theorem anchTo_zero (a : Int) (l : List Fl) : anchTo a l 0 = l := by unfold anchTo; simp
theorem anchTo_all {a : Int} {l : List Fl} {k : Nat} (h : l.length ≤ k) : anchTo a l k = l.map (anchF a) := by
  unfold anchTo
  rw [List.take_of_length_le h, List.drop_eq_nil_of_le h, List.append_nil]
theorem anchTo_len (a : Int) (l : List Fl) (k : Nat) : (anchTo a l k).length = l.length := by
  unfold anchTo
  rw [List.length_append, List.length_map, List.length_take, List.length_drop]
  omega
theorem anchTo_at {a : Int} {l : List Fl} {k : Nat} {x : Fl} (hx : l[k]? = some x) : (anchTo a l k)[k]? = some x := by
  have hk : k < l.length := (List.getElem?_eq_some_iff.1 hx).1
  unfold anchTo
  rw [List.getElem?_append_right (by rw [List.length_map, List.length_take]; omega), List.length_map, List.length_take, List.getElem?_drop]
  rw [show k + (k - min k l.length) = k by omega]
  exact hx
theorem anchTo_step {a : Int} {l : List Fl} {k : Nat} {x : Fl} (hx : l[k]? = some x) : anchTo a l (k + 1) = (anchTo a l k).set k (anchF a x) := by
  have hk : k < l.length := (List.getElem?_eq_some_iff.1 hx).1
  have e : l.drop k = x :: l.drop (k + 1) := by
    rw [List.drop_eq_getElem_cons hk]
    congr 1
    rw [List.getElem?_eq_getElem hk] at hx
    injection hx
  unfold anchTo
  rw [e, List.set_append_right _ _ (by rw [List.length_map, List.length_take]; omega), take_one hx, List.map_append, List.length_map, List.length_take]
  rw [show k - min k l.length = 0 by omega]
  simp
end Go.Proofs.YtdjnaejblgheoaaGreat
/- The order in which a galley grows: what happens, leaf by leaf; what is there stays. Nothing of the program stands here. -/
namespace Go.Proofs.YtdjnaejblgheoaaGreat
open Go
set_option linter.unusedVariables false
set_option linter.unusedSimpArgs false
/-- the nodes that are no blocks, as they come. -/
def leavesE : List Ev → List Nat
  | [] => []
  | .leaf i :: es => i :: leavesE es
  | .begin_ _ :: es => leavesE es
  | .end_ _ :: es => leavesE es
theorem leavesE_append : ∀ (a b : List Ev), leavesE (a ++ b) = leavesE a ++ leavesE b
  | [], b => rfl
  | .leaf i :: es, b => by show i :: leavesE (es ++ b) = i :: leavesE es ++ leavesE b; rw [leavesE_append es b]; rfl
  | .begin_ i :: es, b => leavesE_append es b
  | .end_ i :: es, b => leavesE_append es b
def leafB (L : List Nd) (i : Nat) : Bool := match L[i]? with
  | some x => !decide (x.kind = 1)
  | none => false
def leavesN (L : List Nd) (i e : Nat) : List Nat := (List.range' i (e - i)).filter (leafB L)
theorem leavesN_end {L : List Nd} {i e : Nat} (h : e ≤ i) : leavesN L i e = [] := by unfold leavesN; rw [show e - i = 0 by omega]; rfl
theorem leavesN_split {L : List Nd} {i j e : Nat} (h1 : i ≤ j) (h2 : j ≤ e) : leavesN L i e = leavesN L i j ++ leavesN L j e := by
  unfold leavesN
  rw [← List.filter_append]
  congr 1
  have : e - i = (j - i) + (e - j) := by omega
  rw [this, ← List.range'_append_1]
  rw [show i + (j - i) = j by omega]
theorem leavesN_one {L : List Nd} {i : Nat} {x : Nd} (hx : L[i]? = some x) : leavesN L i (i + 1) = if x.kind = 1 then [] else [i] := by
  unfold leavesN
  rw [show i + 1 - i = 1 by omega]
  simp only [List.range'_one, List.filter_cons, List.filter_nil]
  unfold leafB
  rw [hx]
  by_cases hk : x.kind = 1 <;> simp [hk]
theorem leaves_ev {L : List Nd} (hn : Nested L) : ∀ (d i e : Nat), e ≤ i + d → Clo L i e → leavesE (evN L i e) = leavesN L i e := by
  intro d i e hd hc
  refine ev_ind hn (P := fun i e => leavesE (evN L i e) = leavesN L i e) ?_ ?_ d i e hd hc
  · intro i e he
    rw [evN_end he, leavesN_end he]
    rfl
  · intro i e x hi hx hle hin hnx
    have hl := nxt_lt i x
    rw [evN_step hi hx hle, leavesE_append, hnx, leavesN_split (show i ≤ nxt i x by omega) hle]
    congr 1
    by_cases hk : x.kind = 1
    · rw [leavesN_split (show i ≤ i + 1 by omega) (show i + 1 ≤ nxt i x by omega), leavesN_one hx, if_pos hk, List.nil_append, ← hin hk]
      unfold ev1
      rw [if_pos hk]
      show leavesE (evN L (i + 1) (nxt i x) ++ [.end_ i]) = _
      rw [leavesE_append]
      show leavesE _ ++ [] = _
      rw [List.append_nil]
    · rw [nxt_leaf hn hx hk, leavesN_one hx, if_neg hk]
      unfold ev1
      rw [if_neg hk]
      rfl
theorem leaves_all {L : List Nd} (hn : Nested L) : leavesE (evN L 0 L.length) = leavesN L 0 L.length := leaves_ev hn L.length 0 L.length (by omega) (Clo.all hn)
/-- the next leaf, and what comes ahead of it. -/
theorem leaf_next : ∀ {es : List Ev} {j : Nat} {js : List Nat}, leavesE es = j :: js → ∃ mid post, es = mid ++ .leaf j :: post ∧ leavesE mid = [] ∧ leavesE post = js
  | [], j, js, h => by cases h
  | .leaf i :: es, j, js, h => by
    injection h with h1 h2
    subst h1
    exact ⟨[], es, rfl, rfl, h2⟩
  | .begin_ i :: es, j, js, h => by
    obtain ⟨mid, post, e1, e2, e3⟩ := leaf_next (es := es) h
    exact ⟨.begin_ i :: mid, post, by rw [e1]; rfl, e2, e3⟩
  | .end_ i :: es, j, js, h => by
    obtain ⟨mid, post, e1, e2, e3⟩ := leaf_next (es := es) h
    exact ⟨.end_ i :: mid, post, by rw [e1]; rfl, e2, e3⟩
theorem leavesN_cons {L : List Nd} {i : Nat} {x : Nd} (hx : L[i]? = some x) : leavesN L i L.length = (if x.kind = 1 then [] else [i]) ++ leavesN L (i + 1) L.length := by
  have hi : i < L.length := (List.getElem?_eq_some_iff.1 hx).1
  rw [leavesN_split (show i ≤ i + 1 by omega) (show i + 1 ≤ L.length by omega), leavesN_one hx]
/-- what is there stays, and the pen's place never rises. -/
structure Grows (s t : Gs) : Prop where
  ams : ∃ l, t.ams = s.ams ++ l
  fls : ∃ l, t.fls = s.fls ++ l
  place : s.place ≤ t.place
theorem Grows.refl (s : Gs) : Grows s s := ⟨⟨[], by simp⟩, ⟨[], by simp⟩, Int.le_refl _⟩
theorem Grows.trans {s t u : Gs} (h : Grows s t) (k : Grows t u) : Grows s u := by
  obtain ⟨l1, e1⟩ := h.ams
  obtain ⟨l2, e2⟩ := k.ams
  obtain ⟨m1, f1⟩ := h.fls
  obtain ⟨m2, f2⟩ := k.fls
  exact ⟨⟨l1 ++ l2, by rw [e2, e1, List.append_assoc]⟩, ⟨m1 ++ m2, by rw [f2, f1, List.append_assoc]⟩, Int.le_trans h.place k.place⟩
theorem ev_grows {L : List Nd} (hf : ∀ y ∈ L, y.fits) {w H : Int} {s : Gs} (h : GsOk H s) : ∀ e : Ev, Grows s (evS L w s e)
  | .begin_ i => by
    cases hx : L[i]? with
    | none => rw [show evS L w s (.begin_ i) = s by show (match L[i]? with | some x => beginS x s | none => s) = _; rw [hx]]; exact Grows.refl s
    | some x => rw [evS_begin hx]; exact ⟨⟨[], by simp [beginS]⟩, ⟨[], by simp [beginS]⟩, (begin_ok h (hf x (List.mem_of_getElem? hx))).2⟩
  | .end_ i => by
    cases hx : L[i]? with
    | none => rw [show evS L w s (.end_ i) = s by show (match L[i]? with | some x => endS x s | none => s) = _; rw [hx]]; exact Grows.refl s
    | some x => rw [evS_end hx]; exact ⟨⟨[], by simp [endS]⟩, ⟨[], by simp [endS]⟩, (end_ok h (hf x (List.mem_of_getElem? hx))).2⟩
  | .leaf i => by
    cases hx : L[i]? with
    | none => rw [show evS L w s (.leaf i) = s by show (match L[i]? with | some x => leafS (roomP L w i) i x s | none => s) = _; rw [hx]]; exact Grows.refl s
    | some x =>
      rw [evS_leaf hx]
      unfold leafS
      rcases hf x (List.mem_of_getElem? hx) with ⟨hk, _⟩ | ⟨hk, _, hl, _⟩ | ⟨hk, _, _, _, _, hw, hh, _⟩ | ⟨hk, _⟩
      · rw [if_neg (by omega), if_neg (by omega), if_neg (by omega)]; exact Grows.refl s
      · rw [if_pos hk]
        exact ⟨⟨_, rfl⟩, ⟨[], by simp [textS]⟩, (text_ok h (by have := hl.1; omega)).2⟩
      · rw [if_neg (by omega), if_pos hk]
        have hb := box_ok (rm := roomP L w i) (i := i) h (show 0 ≤ x.h by have := hh.1; omega)
        exact ⟨⟨_, rfl⟩, ⟨[], by simp [boxS]⟩, by show s.place ≤ boxY (roomP L w i) x s + x.h + 0; have := hh.1; omega⟩
      · rw [if_neg (by omega), if_neg (by omega), if_pos hk]
        exact ⟨⟨[], by simp [floatS]⟩, ⟨_, rfl⟩, Int.le_refl _⟩
theorem run_grows {L : List Nd} (hf : ∀ y ∈ L, y.fits) {w : Int} (h1 : 1 ≤ w) (h2 : w ≤ maxX) : ∀ (es : List Ev) {H : Int} {s : Gs}, GsOk H s → Grows s (runS L w s es)
  | [], H, s, h => Grows.refl s
  | e :: es, H, s, h => (ev_grows hf h e).trans (run_grows hf h1 h2 es (ev_ok hf h1 h2 h e))
/-- where no leaf is, atoms and floats stay. -/
theorem run_mid {L : List Nd} {w : Int} : ∀ (es : List Ev) (s : Gs), leavesE es = [] → (runS L w s es).ams = s.ams ∧ (runS L w s es).fls = s.fls
  | [], s, _ => ⟨rfl, rfl⟩
  | .leaf i :: es, s, h => by cases h
  | .begin_ i :: es, s, h => by
    have ih := run_mid (L := L) (w := w) es (evS L w s (.begin_ i)) h
    have e1 : (evS L w s (.begin_ i)).ams = s.ams ∧ (evS L w s (.begin_ i)).fls = s.fls := by
      cases hx : L[i]? with
      | none => rw [show evS L w s (.begin_ i) = s by show (match L[i]? with | some x => beginS x s | none => s) = _; rw [hx]]; exact ⟨rfl, rfl⟩
      | some x => rw [evS_begin hx]; exact ⟨rfl, rfl⟩
    exact ⟨ih.1.trans e1.1, ih.2.trans e1.2⟩
  | .end_ i :: es, s, h => by
    have ih := run_mid (L := L) (w := w) es (evS L w s (.end_ i)) h
    have e1 : (evS L w s (.end_ i)).ams = s.ams ∧ (evS L w s (.end_ i)).fls = s.fls := by
      cases hx : L[i]? with
      | none => rw [show evS L w s (.end_ i) = s by show (match L[i]? with | some x => endS x s | none => s) = _; rw [hx]]; exact ⟨rfl, rfl⟩
      | some x => rw [evS_end hx]; exact ⟨rfl, rfl⟩
    exact ⟨ih.1.trans e1.1, ih.2.trans e1.2⟩
/-- as far as node i: what has happened, and what hasn't yet. -/
structure Upto (L : List Nd) (w : Int) (i : Nat) (s : Gs) : Prop where
  ex : ∃ pre post, evN L 0 L.length = pre ++ post ∧ s = runS L w .start pre ∧ leavesE post = leavesN L i L.length
theorem Upto.zero {L : List Nd} (hn : Nested L) (w : Int) : Upto L w 0 .start := ⟨[], evN L 0 L.length, rfl, rfl, leaves_all hn⟩
theorem Upto.block {L : List Nd} {w : Int} {i : Nat} {s : Gs} {x : Nd} (h : Upto L w i s) (hx : L[i]? = some x) (hk : x.kind = 1) : Upto L w (i + 1) s := by
  obtain ⟨pre, post, h1, h2, h3⟩ := h.ex
  rw [leavesN_cons hx, if_pos hk, List.nil_append] at h3
  exact ⟨pre, post, h1, h2, h3⟩
/-- a leaf: it comes next, on a galley with the same atoms and floats. -/
theorem Upto.leaf {L : List Nd} (hf : ∀ y ∈ L, y.fits) {w : Int} (w1 : 1 ≤ w) (w2 : w ≤ maxX) {i : Nat} {s : Gs} {x : Nd} (h : Upto L w i s) (hx : L[i]? = some x) (hk : x.kind ≠ 1) :
    ∃ t, t.ams = s.ams ∧ t.fls = s.fls ∧ s.place ≤ t.place ∧ (∃ H, GsOk H t ∧ H ≤ sumE L (evN L 0 L.length)) ∧ Upto L w (i + 1) (leafS (roomP L w i) i x t) := by
  obtain ⟨pre, post, h1, h2, h3⟩ := h.ex
  rw [leavesN_cons hx, if_neg hk] at h3
  obtain ⟨mid, post', e1, e2, e3⟩ := leaf_next h3
  have hok := run_ok hf w1 w2 pre (w := w) GsOk.start
  have hg := run_grows hf w1 w2 mid hok
  have hm := run_mid (L := L) (w := w) mid (runS L w .start pre) e2
  refine ⟨runS L w s mid, by rw [h2]; exact hm.1, by rw [h2]; exact hm.2, by rw [h2]; exact hg.place, ⟨_, by rw [h2]; exact run_ok hf w1 w2 mid hok, ?_⟩, ⟨pre ++ mid ++ [.leaf i], post', ?_, ?_, e3⟩⟩
  · rw [h1, e1, sumE_append, sumE_append]
    have := sumE_pos hf (.leaf i :: post')
    omega
  · rw [h1, e1]; simp
  · rw [runS_append, runS_append, h2]
    show _ = evS L w (runS L w (runS L w .start pre) mid) (.leaf i)
    rw [evS_leaf hx]
theorem Upto.end_ {L : List Nd} {w : Int} {s : Gs} (h : Upto L w L.length s) : (galS L w).ams = s.ams ∧ (galS L w).fls = s.fls := by
  obtain ⟨pre, post, h1, h2, h3⟩ := h.ex
  rw [leavesN_end (Nat.le_refl _)] at h3
  unfold galS
  rw [h1, runS_append, h2]
  exact run_mid post _ h3
theorem Upto.ok {L : List Nd} (hf : ∀ y ∈ L, y.fits) {w : Int} (w1 : 1 ≤ w) (w2 : w ≤ maxX) {i : Nat} {s : Gs} (h : Upto L w i s) : ∃ H, GsOk H s ∧ H ≤ sumE L (evN L 0 L.length) := by
  obtain ⟨pre, post, h1, h2, h3⟩ := h.ex
  refine ⟨0 + sumE L pre, by rw [h2]; exact run_ok hf w1 w2 pre GsOk.start, ?_⟩
  rw [h1, sumE_append]
  have := sumE_pos hf post
  omega
end Go.Proofs.YtdjnaejblgheoaaGreat
/- Each once, in order, below what is ahead: what is told of a galley leaf by leaf. Nothing of the program stands here. -/
namespace Go.Proofs.YtdjnaejblgheoaaGreat
open Go
set_option linter.unusedVariables false
set_option linter.unusedSimpArgs false
theorem anchF_same (a : Int) (f : Fl) : (anchF a f).node = f.node ∧ (anchF a f).side = f.side ∧ (anchF a f).x = f.x ∧ (anchF a f).y = f.y ∧ (anchF a f).w = f.w ∧ (anchF a f).h = f.h := by
  unfold anchF
  split <;> exact ⟨rfl, rfl, rfl, rfl, rfl, rfl⟩
/-- lines from word i on, from y on, until all words are set. -/
def Chain (ws : List Int) (sp h : Int) : Nat → Int → List Ln → Prop
  | i, y, [] => i = ws.length
  | i, y, z :: r => z.from_ = (i : Int) ∧ y ≤ z.y ∧ ∃ j : Nat, z.to_ = (j : Int) ∧ i < j ∧ j ≤ ws.length ∧ z.w = wideN ws sp i j ∧ Chain ws sp h j (z.y + h) r
theorem lns_chain {l : List Fl} {ws : List Int} {sp h a b : Int} : ∀ (f i : Nat) (y : Int), ws.length ≤ i + f → i ≤ ws.length → Chain ws sp h i y (lnsL l ws sp h a b i y)
  | 0, i, y, hf, hi => by rw [lnsL_end (by omega)]; show i = ws.length; omega
  | f + 1, i, y, hf, hi => by
    by_cases hlt : i < ws.length
    · rw [lnsL_step hlt]
      obtain ⟨j, hj, h1, h2⟩ := lineL_to l ws sp h a b y hlt
      refine ⟨rfl, seekE_ge _, j, hj, h1, h2, ?_, ?_⟩
      · have e : ((endP ws sp (lenW (bandL l (seekE l h (wordI ws i) a b y) h (a, b)).1 (bandL l (seekE l h (wordI ws i) a b y) h (a, b)).2) i : Nat) : Int) = (j : Int) := hj
        show wideN ws sp i (endP ws sp (lenW (bandL l (seekE l h (wordI ws i) a b y) h (a, b)).1 (bandL l (seekE l h (wordI ws i) a b y) h (a, b)).2) i) = _
        rw [show endP ws sp (lenW (bandL l (seekE l h (wordI ws i) a b y) h (a, b)).1 (bandL l (seekE l h (wordI ws i) a b y) h (a, b)).2) i = j by omega]
      · rw [hj, Int.toNat_natCast]
        exact lns_chain f j _ (by omega) h2
    · rw [lnsL_end (by omega)]
      show i = ws.length
      omega
theorem chain_pen {ws : List Int} {sp h : Int} (h0 : 0 ≤ h) : ∀ (r : List Ln) (i : Nat) (y : Int) (p : Int × Int), Chain ws sp h i y r → p.1 + p.2 ≤ y → p.1 + p.2 ≤ (penLns h p r).1 + (penLns h p r).2 ∧ ∀ z ∈ r, z.y + h ≤ (penLns h p r).1 + (penLns h p r).2
  | [], i, y, p, _, hp => ⟨Int.le_refl _, fun z hz => by cases hz⟩
  | z :: r, i, y, p, hc, hp => by
    obtain ⟨_, hy, j, _, _, _, _, hr⟩ := hc
    obtain ⟨h1, h2⟩ := chain_pen h0 r j (z.y + h) (z.y + h, 0) hr (by simp)
    have e : penLns h p (z :: r) = penLns h (z.y + h, 0) r := rfl
    rw [e]
    simp only at h1
    refine ⟨by omega, fun q hq => ?_⟩
    rcases List.mem_cons.1 hq with rfl | hq
    · omega
    · exact h2 q hq
end Go.Proofs.YtdjnaejblgheoaaGreat
/- Atoms and floats that have no point together: what is told of a galley, leaf by leaf. Nothing of the program stands here. -/
namespace Go.Proofs.YtdjnaejblgheoaaGreat
open Go
set_option linter.unusedVariables false
set_option linter.unusedSimpArgs false
/-- two rectangles that have no point together. -/
def Disj (x y w h x' y' w' h' : Int) : Prop := x + w ≤ x' ∨ x' + w' ≤ x ∨ y + h ≤ y' ∨ y' + h' ≤ y
theorem meet_disj {x y w h x' y' w' h' : Int} (hd : Disj x y w h x' y' w' h') : ofR (meetS (acrossR ⟨x, y, w, h⟩) (acrossR ⟨x', y', w', h'⟩)) (meetS (downR ⟨x, y, w, h⟩) (downR ⟨x', y', w', h'⟩)) = ⟨0, 0, 0, 0⟩ := by
  unfold ofR
  refine tidyR_none ?_
  unfold noneR
  have hz : ∀ {a b c d : Int}, (b ≤ c ∨ d ≤ a) → lenS (meetS (a, b) (c, d)) < 1 := by
    intro a b c d hh
    have e : tidyS (max a c, min b d) = (0, 0) ∨ (b ≤ a ∨ d ≤ c) := by
      rcases hh with hh | hh
      · left; exact tidyS_none (by show min b d ≤ max a c; omega)
      · left; exact tidyS_none (by show min b d ≤ max a c; omega)
    unfold meetS
    rcases e with e | e
    · rw [show ((a, b) : Int × Int).1 = a from rfl, show ((a, b) : Int × Int).2 = b from rfl, show ((c, d) : Int × Int).1 = c from rfl, show ((c, d) : Int × Int).2 = d from rfl, e]
      decide
    · rw [tidyS_none (by show min b d ≤ max a c; omega)]
      decide
  rcases hd with hd | hd | hd | hd
  · exact .inl (hz (.inl hd))
  · exact .inl (hz (.inr hd))
  · exact .inr (hz (.inl hd))
  · exact .inr (hz (.inr hd))
/-- what a strip's band leaves out. -/
theorem band_clear {y h : Int} : ∀ (l : List Fl) (s : Int × Int) (f : Fl), f ∈ l → meetsF f y h = true → (f.side = 1 → f.x + f.w ≤ (bandL l y h s).1) ∧ (f.side ≠ 1 → (bandL l y h s).2 ≤ f.x)
  | [], s, f, hf, _ => by cases hf
  | g :: r, s, f, hf, hm => by
    show (f.side = 1 → f.x + f.w ≤ (bandL r y h (bandStep y h s g)).1) ∧ (f.side ≠ 1 → (bandL r y h (bandStep y h s g)).2 ≤ f.x)
    rcases List.mem_cons.1 hf with rfl | hf
    · obtain ⟨m1, m2⟩ := bandL_mono (y := y) (h := h) r (bandStep y h s f)
      unfold bandStep at m1 m2 ⊢
      rw [if_pos hm] at m1 m2 ⊢
      refine ⟨fun hs => ?_, fun hs => ?_⟩
      · rw [if_pos hs] at m1 ⊢
        simp only at m1
        exact Int.le_trans (by omega) m1
      · rw [if_neg hs] at m2 ⊢
        simp only at m2
        exact Int.le_trans m2 (by omega)
    · exact band_clear r _ f hf hm
/-- what stands within a strip's band has no point in a float. -/
theorem band_disj {l : List Fl} {H : Int} (hl : ∀ f ∈ l, FlOk H f) {y h x w a b : Int} (hh : 1 ≤ h) (h1 : (bandL l y h (a, b)).1 ≤ x) (h2 : x + w ≤ (bandL l y h (a, b)).2) : ∀ f ∈ l, Disj x y w h f.x f.y f.w f.h := by
  intro f hf
  have hok := hl f hf
  have hf0 := hok.h0
  by_cases hm : meetsF f y h = true
  · obtain ⟨c1, c2⟩ := band_clear l (a, b) f hf hm
    rcases hok.side with hs | hs
    · exact .inr (.inl (Int.le_trans (c1 hs) h1))
    · exact .inl (Int.le_trans h2 (c2 (by omega)))
  · unfold meetsF at hm
    simp only [Bool.and_eq_true, decide_eq_true_eq, not_and] at hm
    have h3 := hm (by omega)
    have e : max h 1 = h := by omega
    rw [e] at h3
    by_cases h4 : f.y < y + h
    · exact .inr (.inr (.inr (by have := h3 h4; omega)))
    · exact .inr (.inr (.inl (by omega)))
theorem lenW_le {p q w : Int} (hw : 1 ≤ w) (h : w ≤ lenW p q) : p + w ≤ q := by
  unfold lenW at h
  split at h <;> omega
/-- what a line beside floats is: it stands within its room, and has no point in a float, if it is not wider than its room. -/
theorem line_good {l : List Fl} {H : Int} (hl : ∀ f ∈ l, FlOk H f) {ws : List Int} {sp h a b : Int} (hab : a ≤ b) (hh : 1 ≤ h) (hn : Near9 ws sp) (hp : ∀ z ∈ ws, 1 ≤ z) {i : Nat} (hi : i < ws.length) (y : Int) (hw : (lineL l ws sp h a b i y).w ≤ b - a) :
    a ≤ (lineL l ws sp h a b i y).x ∧ (lineL l ws sp h a b i y).x + (lineL l ws sp h a b i y).w ≤ b ∧ ∀ f ∈ l, Disj (lineL l ws sp h a b i y).x (lineL l ws sp h a b i y).y (lineL l ws sp h a b i y).w h f.x f.y f.w f.h := by
  have hwi : 1 ≤ wordI ws i := by
    unfold wordI
    rw [List.getElem?_eq_getElem hi]
    exact hp _ (List.getElem_mem hi)
  obtain ⟨yy, hyy⟩ : ∃ yy, seekE l h (wordI ws i) a b y = yy := ⟨_, rfl⟩
  have hst := seekE_stands (l := l) (h := h) (w := wordI ws i) (y := y) hab hwi
  have hln : lineL l ws sp h a b i y = ⟨(i : Int), ((endP ws sp (lenW (bandL l yy h (a, b)).1 (bandL l yy h (a, b)).2) i : Nat) : Int), (bandL l yy h (a, b)).1, yy, wideN ws sp i (endP ws sp (lenW (bandL l yy h (a, b)).1 (bandL l yy h (a, b)).2) i)⟩ := by unfold lineL; rw [hyy]
  rw [hyy] at hst
  rw [hln] at hw ⊢
  simp only at hw ⊢
  obtain ⟨t, ht⟩ : ∃ t, endP ws sp (lenW (bandL l yy h (a, b)).1 (bandL l yy h (a, b)).2) i = t := ⟨_, rfl⟩
  have hsp := (endP_spec (zs := ws) (sp := sp) (wd := lenW (bandL l yy h (a, b)).1 (bandL l yy h (a, b)).2) hi).1
  rw [ht] at hsp hw ⊢
  obtain ⟨l1, l2, l3⟩ := hsp
  have hge : wordI ws i ≤ wideN ws sp i t := by
    have := wide_grow hn (show i < i + 1 by omega) (show i + 1 ≤ t by omega) l2
    rw [wideN_one hi] at this
    exact this
  rcases hst with ⟨s1, s2, s3⟩ | ⟨s1, s2⟩
  · have hwl : wideN ws sp i t ≤ lenW (bandL l yy h (a, b)).1 (bandL l yy h (a, b)).2 := by
      rcases l3 with l3 | l3
      · rw [l3, wideN_one hi]
        unfold lenW
        rw [if_neg (by omega)]
        omega
      · exact l3
    have h5 := lenW_le (by omega) hwl
    exact ⟨s1, by omega, band_disj hl hh (Int.le_refl _) h5⟩
  · omega
theorem lines_good {l : List Fl} {H : Int} (hl : ∀ f ∈ l, FlOk H f) {ws : List Int} {sp h a b : Int} (hab : a ≤ b) (hh : 1 ≤ h) (hn : Near9 ws sp) (hp : ∀ z ∈ ws, 1 ≤ z) : ∀ (f i : Nat) (y : Int), ∀ z ∈ lnsF l ws sp h a b f i y, z.w ≤ b - a → a ≤ z.x ∧ z.x + z.w ≤ b ∧ ∀ g ∈ l, Disj z.x z.y z.w h g.x g.y g.w g.h
  | 0, i, y, z, hz, _ => by cases hz
  | f + 1, i, y, z, hz, hw => by
    unfold lnsF at hz
    by_cases hi : i < ws.length
    · rw [if_pos hi] at hz
      rcases List.mem_cons.1 hz with rfl | hz
      · exact line_good hl hab hh hn hp hi y hw
      · exact lines_good hl hab hh hn hp f _ _ z hz hw
    · rw [if_neg hi] at hz
      cases hz
/-- an atom where it may be: its node's; within its room and apart from floats, if it is not wider than that. -/
def AmGood (L : List Nd) (wd : Int) (fls : List Fl) (a : Am) : Prop := ∃ i : Nat, a.node = (i : Int) ∧ i < L.length ∧ (a.w ≤ (roomP L wd i).2 → (roomP L wd i).1 ≤ a.x ∧ a.x + a.w ≤ (roomP L wd i).1 + (roomP L wd i).2 ∧ ∀ f ∈ fls, Disj a.x a.y a.w a.h f.x f.y f.w f.h)
/-- a float where it may be, among those ahead. -/
def FlGood (L : List Nd) (wd : Int) (ahead : List Fl) (f : Fl) : Prop := ∃ i : Nat, f.node = (i : Int) ∧ i < L.length ∧ (f.w ≤ (roomP L wd i).2 → ∀ g ∈ ahead, Disj f.x f.y f.w f.h g.x g.y g.w g.h)
structure Good (L : List Nd) (wd : Int) (s : Gs) : Prop where
  ams : ∀ a ∈ s.ams, AmGood L wd s.fls a ∧ a.y + a.h ≤ s.place
  fls : ∀ (k : Nat) (f : Fl), s.fls[k]? = some f → FlGood L wd (s.fls.take k) f
  bd : ∀ a ∈ s.ams, 0 ≤ a.w ∧ 0 ≤ a.y ∧ 1 ≤ a.h
theorem Good.start (L : List Nd) (wd : Int) : Good L wd .start := ⟨fun a h => (by cases h), fun k f h => (by cases h), fun a h => (by cases h)⟩
theorem Good.down {L : List Nd} {wd : Int} {s t : Gs} (h : Good L wd s) (h1 : t.ams = s.ams) (h2 : t.fls = s.fls) (h3 : s.place ≤ t.place) : Good L wd t := by
  refine ⟨fun a ha => ?_, fun k f hk => ?_, fun a ha => ?_⟩
  · rw [h1] at ha
    rw [h2]
    exact ⟨(h.ams a ha).1, Int.le_trans (h.ams a ha).2 h3⟩
  · rw [h2] at hk ⊢
    exact h.fls k f hk
  · rw [h1] at ha
    exact h.bd a ha
theorem lns_ge {l : List Fl} {ws : List Int} {sp h a b : Int} (h0 : 0 ≤ h) : ∀ (f i : Nat) (y : Int), ∀ z ∈ lnsF l ws sp h a b f i y, y ≤ z.y
  | 0, i, y, z, hz => by cases hz
  | f + 1, i, y, z, hz => by
    unfold lnsF at hz
    by_cases hi : i < ws.length
    · rw [if_pos hi] at hz
      have hge : y ≤ (lineL l ws sp h a b i y).y := seekE_ge _
      rcases List.mem_cons.1 hz with rfl | hz
      · exact hge
      · have := lns_ge (l := l) (sp := sp) (a := a) (b := b) h0 f _ _ z hz
        omega
    · rw [if_neg hi] at hz
      cases hz
theorem lns_w {l : List Fl} {ws : List Int} {sp h a b : Int} (hn : Near9 ws sp) : ∀ (f i : Nat) (y : Int), ∀ z ∈ lnsF l ws sp h a b f i y, 0 ≤ z.w
  | 0, i, y, z, hz => by cases hz
  | f + 1, i, y, z, hz => by
    unfold lnsF at hz
    by_cases hi : i < ws.length
    · rw [if_pos hi] at hz
      rcases List.mem_cons.1 hz with rfl | hz
      · exact (wideN_bd hn _ _).1
      · exact lns_w hn f _ _ z hz
    · rw [if_neg hi] at hz
      cases hz
theorem am_snoc {L : List Nd} {wd : Int} {fls : List Fl} {f : Fl} {a : Am} (h : AmGood L wd fls a) (hd : Disj a.x a.y a.w a.h f.x f.y f.w f.h) : AmGood L wd (fls ++ [f]) a := by
  obtain ⟨i, h1, h2, h3⟩ := h
  refine ⟨i, h1, h2, fun hw => ⟨(h3 hw).1, (h3 hw).2.1, fun g hg => ?_⟩⟩
  rcases List.mem_append.1 hg with hg | hg
  · exact (h3 hw).2.2 g hg
  · simp only [List.mem_singleton] at hg
    subst hg
    exact hd
theorem max_fits {p q w : Int} (h : p + w ≤ q) : max p (q - w) + w ≤ q := by omega
theorem good_leaf {L : List Nd} (hf : ∀ y ∈ L, y.fits) {wd : Int} (w1 : 1 ≤ wd) (w2 : wd ≤ maxX) {i : Nat} {x : Nd} (hx : L[i]? = some x) {s : Gs} {H : Int} (hG : GsOk H s) (h : Good L wd s) : Good L wd (leafS (roomP L wd i) i x s) := by
  have hil : i < L.length := (List.getElem?_eq_some_iff.1 hx).1
  have hgr := ev_grows (w := wd) hf hG (.leaf i)
  rw [evS_leaf hx] at hgr
  have hpl := hgr.place
  obtain ⟨r0, r1, r2, r3⟩ := room_bd hf w1 w2 i
  have hp0 : 0 ≤ s.place := by have := hG.p0; have := hG.p1; unfold Gs.place; omega
  obtain ⟨⟨rx, u⟩, hrm⟩ : ∃ r, roomP L wd i = r := ⟨_, rfl⟩
  rw [hrm] at hpl r0 r1 r2 r3 ⊢
  simp only at r0 r1 r2 r3
  unfold leafS at hpl ⊢
  rcases hf x (List.mem_of_getElem? hx) with ⟨hk, _⟩ | ⟨hk, _, hl2, hsp2, _, hws2, _⟩ | ⟨hk, _, _, _, _, hw3, hh3, _⟩ | ⟨hk, _, _, _, _, hw4, hh4, hs4⟩
  · rw [if_neg (by omega), if_neg (by omega), if_neg (by omega)]
    exact h
  · rw [if_pos hk] at hpl ⊢
    have hn : Near9 x.words x.space := ⟨⟨by have := hsp2.1; omega, by have := hsp2.2; unfold farN maxN at *; omega⟩, fun z hz => ⟨by have := (hws2 z hz).1; omega, by have := (hws2 z hz).2; unfold farN maxN at *; omega⟩⟩
    have hgood := lines_good hG.fls (ws := x.words) (sp := x.space) (h := x.line) (a := rx) (b := rx + u) (by omega) hl2.1 hn (fun z hz => (hws2 z hz).1) x.words.length 0 s.place
    have hge := lns_ge (l := s.fls) (ws := x.words) (sp := x.space) (h := x.line) (a := rx) (b := rx + u) (by have := hl2.1; omega) x.words.length 0 s.place
    have hwp := lns_w (l := s.fls) (h := x.line) (a := rx) (b := rx + u) hn x.words.length 0 s.place
    have hch := lns_chain (l := s.fls) (ws := x.words) (sp := x.space) (h := x.line) (a := rx) (b := rx + u) x.words.length 0 s.place (by omega) (by omega)
    have hcp := (chain_pen (by have := hl2.1; omega) _ 0 s.place s.pen hch (Int.le_refl _)).2
    refine ⟨fun a ha => ?_, h.fls, fun a ha => ?_⟩
    · rcases List.mem_append.1 (show a ∈ s.ams ++ _ from ha) with ha | ha
      · exact ⟨(h.ams a ha).1, Int.le_trans (h.ams a ha).2 hpl⟩
      · obtain ⟨z, hz, rfl⟩ := List.mem_map.1 ha
        refine ⟨⟨i, rfl, hil, fun hw => ?_⟩, hcp z hz⟩
        rw [hrm] at hw ⊢
        have h9 := hgood z hz (by have : z.w ≤ u := hw; omega)
        exact ⟨h9.1, h9.2.1, h9.2.2⟩
    · rcases List.mem_append.1 (show a ∈ s.ams ++ _ from ha) with ha | ha
      · exact h.bd a ha
      · obtain ⟨z, hz, rfl⟩ := List.mem_map.1 ha
        exact ⟨hwp z hz, Int.le_trans hp0 (hge z hz), hl2.1⟩
  · rw [if_neg (by omega), if_pos hk] at hpl ⊢
    have hge : s.place ≤ boxY (rx, u) x s := seekE_ge _
    have hst := seekE_stands (l := s.fls) (h := x.h) (w := x.w) (a := rx) (b := rx + u) (y := s.place) (by omega) hw3.1
    refine ⟨fun a ha => ?_, h.fls, fun a ha => ?_⟩
    · rcases List.mem_append.1 (show a ∈ s.ams ++ _ from ha) with ha | ha
      · exact ⟨(h.ams a ha).1, Int.le_trans (h.ams a ha).2 hpl⟩
      · simp only [List.mem_singleton] at ha
        subst ha
        refine ⟨⟨i, rfl, hil, fun hw => ?_⟩, by show boxY (rx, u) x s + x.h ≤ (boxY (rx, u) x s + x.h) + 0; omega⟩
        rw [hrm] at hw ⊢
        simp only at hw ⊢
        rcases hst with ⟨s1, s2, s3⟩ | ⟨s1, s2⟩
        · exact ⟨s1, Int.le_trans s2 s3, band_disj hG.fls hh3.1 (Int.le_refl _) s2⟩
        · omega
    · rcases List.mem_append.1 (show a ∈ s.ams ++ _ from ha) with ha | ha
      · exact h.bd a ha
      · simp only [List.mem_singleton] at ha
        subst ha
        exact ⟨by have := hw3.1; simp only; omega, by simp only; omega, hh3.1⟩
  · rw [if_neg (by omega), if_neg (by omega), if_pos hk] at hpl ⊢
    obtain ⟨f, hff⟩ : ∃ f, ({ (⟨(i : Int), x.side, (s.ams.length : Int), 0, 0, x.w, x.h⟩ : Fl) with x := spotX s.fls ⟨(i : Int), x.side, (s.ams.length : Int), 0, 0, x.w, x.h⟩ s.place rx (rx + u), y := spotY s.fls ⟨(i : Int), x.side, (s.ams.length : Int), 0, 0, x.w, x.h⟩ s.place rx (rx + u) } : Fl) = f := ⟨_, rfl⟩
    have hfl : (floatS (rx, u) i x s).fls = s.fls ++ [f] := by unfold floatS putL; rw [hff]
    obtain ⟨t1, t2⟩ := startY_bds hG.fls hG.p2
    obtain ⟨t3, t4⟩ := spotY_bds hG.fls ⟨(i : Int), x.side, (s.ams.length : Int), 0, 0, x.w, x.h⟩ (a := rx) (b := rx + u) hG.p2
    have hfy : s.place ≤ f.y := by rw [← hff]; simp only; omega
    have hfn : f.node = (i : Int) := by rw [← hff]
    refine ⟨fun a ha => ?_, fun k g hk2 => ?_, h.bd⟩
    · have h9 := h.ams a ha
      rw [hfl]
      exact ⟨am_snoc h9.1 (.inr (.inr (.inl (by omega)))), h9.2⟩
    · rw [hfl] at hk2 ⊢
      by_cases hks : k < s.fls.length
      · rw [List.getElem?_append_left hks] at hk2
        rw [List.take_append_of_le_length (by omega)]
        exact h.fls k g hk2
      · have hke : k = s.fls.length := by have := (List.getElem?_eq_some_iff.1 hk2).1; rw [List.length_append] at this; simp at this; omega
        subst hke
        rw [List.getElem?_append_right (Nat.le_refl _)] at hk2
        simp at hk2
        subst hk2
        rw [List.take_left']
        · refine ⟨i, hfn, hil, fun hw => ?_⟩
          rw [hrm] at hw
          rw [← hff] at hw ⊢
          simp only at hw ⊢
          have hst := seekE_stands (l := s.fls) (h := x.h) (w := x.w) (a := rx) (b := rx + u) (y := startY s.fls s.place) (by omega) hw4.1
          have hsy : spotY s.fls ⟨(i : Int), x.side, (s.ams.length : Int), 0, 0, x.w, x.h⟩ s.place rx (rx + u) = seekE s.fls x.h x.w rx (rx + u) (startY s.fls s.place) := spotY_seek ..
          unfold spotX
          rw [hsy]
          simp only
          rcases hst with ⟨s1, s2, s3⟩ | ⟨s1, s2⟩
          · split
            · exact band_disj hG.fls hh4.1 (Int.le_refl _) s2
            · exact band_disj hG.fls hh4.1 (Int.le_max_left _ _) (max_fits s2)
          · omega
        · rfl
theorem good_run {L : List Nd} (hf : ∀ y ∈ L, y.fits) {wd : Int} (w1 : 1 ≤ wd) (w2 : wd ≤ maxX) : ∀ (es : List Ev) {H : Int} {s : Gs}, GsOk H s → Good L wd s → Good L wd (runS L wd s es)
  | [], H, s, _, h => h
  | e :: es, H, s, hG, h => by
    show Good L wd (runS L wd (evS L wd s e) es)
    refine good_run hf w1 w2 es (ev_ok hf w1 w2 hG e) ?_
    have hgr := ev_grows (w := wd) hf hG e
    cases e with
    | begin_ i =>
      cases hx : L[i]? with
      | none => rw [show evS L wd s (.begin_ i) = s by show (match L[i]? with | some x => beginS x s | none => s) = _; rw [hx]]; exact h
      | some x => rw [evS_begin hx] at hgr ⊢; exact h.down rfl rfl hgr.place
    | end_ i =>
      cases hx : L[i]? with
      | none => rw [show evS L wd s (.end_ i) = s by show (match L[i]? with | some x => endS x s | none => s) = _; rw [hx]]; exact h
      | some x => rw [evS_end hx] at hgr ⊢; exact h.down rfl rfl hgr.place
    | leaf i =>
      cases hx : L[i]? with
      | none => rw [show evS L wd s (.leaf i) = s by show (match L[i]? with | some x => leafS (roomP L wd i) i x s | none => s) = _; rw [hx]]; exact h
      | some x => rw [evS_leaf hx]; exact good_leaf hf w1 w2 hx hG h
end Go.Proofs.YtdjnaejblgheoaaGreat
