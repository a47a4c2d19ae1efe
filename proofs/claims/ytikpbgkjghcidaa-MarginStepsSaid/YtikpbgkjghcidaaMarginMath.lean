import Derived.Test.YtikpbgkjghcidaaBandsMath
/- A pen, and what steps make of it. Nothing of the program stands here. -/
namespace Go.Proofs.Ytikpbgkjghcidaa
open Go
set_option linter.unusedVariables false
set_option linter.unusedSimpArgs false
/-- a step. -/
structure Stp where
  kind : Int
  a : Int
  b : Int
def encSt (s : Stp) : List Value := [.int .i64 s.kind, .int .i64 s.a, .int .i64 s.b]
theorem encSt_len (s : Stp) : (encSt s).length = 3 := rfl
theorem encSt_one (s : Stp) : ∀ u ∈ encSt s, u.oneCell' = true := by
  intro u hu
  simp [encSt] at hu
  rcases hu with rfl | rfl | rfl <;> rfl
theorem sts_one (l : List Stp) : ∀ u ∈ l.flatMap encSt, u.oneCell' = true := by
  intro u hu
  obtain ⟨s, _, h⟩ := List.mem_flatMap.1 hu
  exact encSt_one s u h
def Stp.near (s : Stp) : Prop := NearI s.a ∧ NearI s.b
def Stp.nearB (s : Stp) : Bool := nearIB s.a && nearIB s.b
theorem Stp.nearB_iff {s : Stp} : s.nearB = true ↔ s.near := by unfold Stp.nearB Stp.near; simp only [Bool.and_eq_true, nearIB_iff]
/-- the greater one. -/
def raiseI (m k : Int) : Int := if m < k then k else m
theorem raiseI_max (m k : Int) : raiseI m k = max m k := by unfold raiseI; split <;> omega
def enterP (p : Int × Int) (m d : Int) : Int × Int := if 0 < d then (p.1 + raiseI p.2 m + d, 0) else (p.1, raiseI p.2 m)
def leaveP (p : Int × Int) (m d : Int) : Int × Int := if 0 < d then (p.1 + p.2 + d, raiseI 0 m) else (p.1, raiseI p.2 m)
def clearP (p : Int × Int) (low : Int) : Int × Int := if p.1 + p.2 < low then (low, 0) else p
def stepP (p : Int × Int) (s : Stp) : Int × Int := if s.kind = 1 then enterP p s.a s.b else if s.kind = 2 then leaveP p s.a s.b else if s.kind = 3 then clearP p s.a else if s.kind = 4 then (p.1 + p.2 + s.a, 0) else p
/-- the pen behind steps. -/
def penL (p : Int × Int) (l : List Stp) : Int × Int := l.foldl stepP p
def placeP (p : Int × Int) (s : Stp) : List Int := if s.kind = 4 then [p.1 + p.2] else []
/-- where things are put. -/
def placesL : Int × Int → List Stp → List Int
  | _, [] => []
  | p, s :: r => placeP p s ++ placesL (stepP p s) r
theorem placesL_append : ∀ (l r : List Stp) (p : Int × Int), placesL p (l ++ r) = placesL p l ++ placesL (penL p l) r
  | [], r, p => rfl
  | s :: l, r, p => by
    show placeP p s ++ placesL (stepP p s) (l ++ r) = (placeP p s ++ placesL (stepP p s) l) ++ placesL (penL (stepP p s) l) r
    rw [placesL_append l r, List.append_assoc]
theorem placesL_take {l : List Stp} {k : Nat} {s : Stp} (p : Int × Int) (h : l[k]? = some s) : placesL p (l.take (k + 1)) = placesL p (l.take k) ++ placeP (penL p (l.take k)) s := by
  rw [take_one h, placesL_append]
  show _ ++ (placeP _ s ++ []) = _
  rw [List.append_nil]
theorem penL_take {l : List Stp} {k : Nat} {s : Stp} (p : Int × Int) (h : l[k]? = some s) : penL p (l.take (k + 1)) = stepP (penL p (l.take k)) s := foldl_one stepP p h
theorem placesL_len (l : List Stp) : ∀ (p : Int × Int), (placesL p l).length ≤ l.length := by
  induction l with
  | nil => exact fun _ => Nat.le_refl _
  | cons s r ih =>
    intro p
    show (placeP p s ++ placesL (stepP p s) r).length ≤ r.length + 1
    have := ih (stepP p s)
    unfold placeP
    split <;> simp <;> omega
/-- a pen behind k steps at most. -/
def PenB (k : Nat) (p : Int × Int) : Prop := (-((1 + 2 * (k : Int)) * 1125899906842624) ≤ p.1 ∧ p.1 ≤ (1 + 2 * (k : Int)) * 1125899906842624) ∧ NearI p.2
theorem PenB.start {y m : Int} (hy : NearI y) (hm : NearI m) : PenB 0 (y, m) := by
  refine ⟨?_, hm⟩
  unfold NearI farB at hy
  simp only
  omega
theorem PenB.mono {k j : Nat} {p : Int × Int} (h : PenB k p) (hj : k ≤ j) : PenB j p := by
  refine ⟨?_, h.2⟩
  have := h.1
  omega
theorem enterP_bd {k : Nat} {p : Int × Int} {m d : Int} (h : PenB k p) (hm : NearI m) (hd : NearI d) : PenB (k + 1) (enterP p m d) := by
  obtain ⟨h1, h2⟩ := h
  unfold PenB enterP raiseI NearI farB at *
  push_cast
  repeat' split
  all_goals simp only
  all_goals omega
theorem leaveP_bd {k : Nat} {p : Int × Int} {m d : Int} (h : PenB k p) (hm : NearI m) (hd : NearI d) : PenB (k + 1) (leaveP p m d) := by
  obtain ⟨h1, h2⟩ := h
  unfold PenB leaveP raiseI NearI farB at *
  push_cast
  repeat' split
  all_goals simp only
  all_goals omega
theorem clearP_bd {k : Nat} {p : Int × Int} {m : Int} (h : PenB k p) (hm : NearI m) : PenB (k + 1) (clearP p m) := by
  obtain ⟨h1, h2⟩ := h
  unfold PenB clearP NearI farB at *
  push_cast
  split
  · simp only
    omega
  · omega
theorem stepP_bd {k : Nat} {p : Int × Int} {s : Stp} (h : PenB k p) (hs : s.near) : PenB (k + 1) (stepP p s) := by
  unfold stepP
  split
  · exact enterP_bd h hs.1 hs.2
  split
  · exact leaveP_bd h hs.1 hs.2
  split
  · exact clearP_bd h hs.1
  split
  · obtain ⟨h1, h2⟩ := h
    have h3 := hs.1
    unfold PenB NearI farB at *
    push_cast
    refine ⟨?_, ?_⟩
    · show _ ≤ p.1 + p.2 + s.a ∧ p.1 + p.2 + s.a ≤ _
      omega
    · exact ⟨by decide, by decide⟩
  · exact h.mono (Nat.le_succ _)
theorem penL_bd {l : List Stp} : ∀ {k : Nat} {p : Int × Int}, PenB k p → (∀ s ∈ l, s.near) → PenB (k + l.length) (penL p l) := by
  induction l with
  | nil => exact fun h _ => h
  | cons s r ih =>
    intro k p h hn
    have := ih (stepP_bd h (hn s (by simp))) (fun t ht => hn t (by simp [ht]))
    rw [List.length_cons, show k + (r.length + 1) = k + 1 + r.length from by omega]
    exact this
theorem penL_take_bd {l : List Stp} {k : Nat} {p : Int × Int} (h : PenB 0 p) (hn : ∀ s ∈ l, s.near) (hk : k ≤ l.length) : PenB k (penL p (l.take k)) := by
  have := penL_bd (l := l.take k) h (fun s hs => hn s (List.mem_of_mem_take hs))
  rw [List.length_take, Nat.min_eq_left hk, Nat.zero_add] at this
  exact this
/-- steps such as are spoken of. -/
def stepsB (y m : Int) (l : List Stp) : Bool := nearIB y && nearIB m && l.all Stp.nearB
theorem stepsB_iff {y m : Int} {l : List Stp} : stepsB y m l = true ↔ (NearI y ∧ NearI m) ∧ ∀ s ∈ l, s.near := by
  unfold stepsB
  simp only [Bool.and_eq_true, List.all_eq_true, Stp.nearB_iff, nearIB_iff]
theorem stepsB_no {y m : Int} {l : List Stp} (h : ¬ ((NearI y ∧ NearI m) ∧ ∀ s ∈ l, s.near)) : stepsB y m l = false := by
  rcases hq : stepsB y m l with _ | _
  · rfl
  · exact absurd (stepsB_iff.1 hq) h
/-- near numbers, in a row. -/
def allNearB (zs : List Int) : Bool := zs.all nearIB
theorem allNearB_iff {zs : List Int} : allNearB zs = true ↔ ∀ z ∈ zs, NearI z := by
  unfold allNearB
  simp only [List.all_eq_true, nearIB_iff]
theorem allNearB_no {zs : List Int} (h : ¬ ∀ z ∈ zs, NearI z) : allNearB zs = false := by
  rcases hq : allNearB zs with _ | _
  · rfl
  · exact absurd (allNearB_iff.1 hq) h
/-- steps without paddings that begin and end blocks: the greatest margin. -/
theorem penL_margins : ∀ (l : List Stp) (y m : Int), (∀ s ∈ l, (s.kind = 1 ∨ s.kind = 2) ∧ s.b = 0) → penL (y, m) l = (y, l.foldl (fun x s => raiseI x s.a) m) ∧ placesL (y, m) l = []
  | [], y, m, _ => ⟨rfl, rfl⟩
  | s :: r, y, m, h => by
    obtain ⟨hk, hb⟩ := h s (by simp)
    have hst : stepP (y, m) s = (y, raiseI m s.a) := by
      unfold stepP enterP leaveP
      rcases hk with hk | hk <;> simp [hk, hb]
    have hp : placeP (y, m) s = [] := by
      unfold placeP
      rw [if_neg (by omega)]
    obtain ⟨h1, h2⟩ := penL_margins r y (raiseI m s.a) (fun t ht => h t (by simp [ht]))
    refine ⟨?_, ?_⟩
    · show penL (stepP (y, m) s) r = _
      rw [hst, h1]; rfl
    · show placeP (y, m) s ++ placesL (stepP (y, m) s) r = []
      rw [hst, h2, hp]; rfl
end Go.Proofs.Ytikpbgkjghcidaa
