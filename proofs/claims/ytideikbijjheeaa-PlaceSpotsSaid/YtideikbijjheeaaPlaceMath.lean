import Derived.Test.YtideikbijjheeaaBandsMath
/- Where a float goes. Nothing of the program stands here. -/
namespace Go.Proofs.Ytideikbijjheeaa
open Go
set_option linter.unusedVariables false
set_option linter.unusedSimpArgs false
def lenW (a b : Int) : Int := if b ≤ a then 0 else b - a
def fitsF (l : List Fl) (h w a b y : Int) : Bool := decide (w ≤ lenW (bandL l y h (a, b)).1 (bandL l y h (a, b)).2)
/-- from y on, k steps down at most. -/
def seekF (l : List Fl) (h w a b : Int) : Nat → Int → Int
  | 0, y => y
  | k + 1, y => if fitsF l h w a b y then y else if (nextL l y h a b).2 then seekF l h w a b k (nextL l y h a b).1 else y
def startY (l : List Fl) (y : Int) : Int := if (topL l).2 = true ∧ y < (topL l).1 then (topL l).1 else y
def spotY (l : List Fl) (f : Fl) (y a b : Int) : Int := seekF l f.h f.w a b (l.length + 1) (startY l y)
def spotX (l : List Fl) (f : Fl) (y a b : Int) : Int := if f.side = 1 then (bandL l (spotY l f y a b) f.h (a, b)).1 else max (bandL l (spotY l f y a b) f.h (a, b)).1 ((bandL l (spotY l f y a b) f.h (a, b)).2 - f.w)
/-- the others, and the float behind them. -/
def putL (l : List Fl) (f : Fl) (y a b : Int) : List Fl := l ++ [{ f with x := spotX l f y a b, y := spotY l f y a b }]
theorem bandL_bd {l : List Fl} (hn : ∀ f ∈ l, f.near) (y h : Int) : ∀ (s : Int × Int), NearY s.1 ∧ NearY s.2 → NearY (bandL l y h s).1 ∧ NearY (bandL l y h s).2 := by
  induction l with
  | nil => exact fun s hs => hs
  | cons f r ih =>
    intro s hs
    show NearY (bandL r y h (bandStep y h s f)).1 ∧ NearY (bandL r y h (bandStep y h s f)).2
    refine ih (fun g hg => hn g (List.mem_cons_of_mem _ hg)) _ ?_
    obtain ⟨⟨x1, x2⟩, _, ⟨w1, w2⟩, _⟩ := hn f (by simp)
    obtain ⟨⟨s1, s2⟩, ⟨s3, s4⟩⟩ := hs
    unfold bandStep
    split
    · split
      · unfold NearY farB at *; simp only; omega
      · unfold NearY farB at *; simp only; omega
    · exact ⟨⟨s1, s2⟩, ⟨s3, s4⟩⟩
theorem least_bd {l : List Fl} (hn : ∀ f ∈ l, f.near) (p : Fl → Bool) : ∀ (s : Int × Bool), NearY s.1 → NearY (l.foldl (leastStep p) s).1 := by
  induction l with
  | nil => exact fun s hs => hs
  | cons f r ih =>
    intro s hs
    refine ih (fun g hg => hn g (List.mem_cons_of_mem _ hg)) _ ?_
    obtain ⟨_, ⟨y1, y2⟩, _, ⟨h1, h2⟩⟩ := hn f (by simp)
    unfold leastStep
    split
    · split
      · unfold NearY farB at *; simp only; omega
      · exact hs
    · exact hs
theorem nextL_bd {l : List Fl} (hn : ∀ f ∈ l, f.near) (y h a b : Int) : NearY (nextL l y h a b).1 := least_bd hn _ _ (by unfold NearY farB; simp only; omega)
theorem topF_bd {l : List Fl} (hn : ∀ f ∈ l, f.near) : NearI (topF l) := by
  cases l with
  | nil => show NearI 0; unfold NearI farB; omega
  | cons f r =>
    have : ∀ (r : List Fl) (b : Int), (∀ g ∈ r, g.near) → NearI b → NearI (r.foldl topStep b) := by
      intro r
      induction r with
      | nil => exact fun b _ hb => hb
      | cons g r ih =>
        intro b hr hb
        refine ih _ (fun k hk => hr k (List.mem_cons_of_mem _ hk)) ?_
        unfold topStep
        split
        · exact (hr g (by simp)).2.1
        · exact hb
    exact this r f.y (fun g hg => hn g (List.mem_cons_of_mem _ hg)) (hn f (by simp)).2.1
theorem startY_bd {l : List Fl} (hn : ∀ f ∈ l, f.near) {y : Int} (hy : NearI y) : NearY (startY l y) := by
  unfold startY
  split
  · exact (topF_bd hn).y
  · exact hy.y
theorem seekF_bd {l : List Fl} (hn : ∀ f ∈ l, f.near) (h w a b : Int) : ∀ (k : Nat) (y : Int), NearY y → NearY (seekF l h w a b k y)
  | 0, y, hy => hy
  | k + 1, y, hy => by
    unfold seekF
    split
    · exact hy
    · split
      · exact seekF_bd hn h w a b k _ (nextL_bd hn _ _ _ _)
      · exact hy
end Go.Proofs.Ytideikbijjheeaa
