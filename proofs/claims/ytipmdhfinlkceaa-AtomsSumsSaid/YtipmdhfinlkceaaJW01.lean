import Derived.RangeFuncBox
import Derived.RangeFuncNested
import Derived.Test.YtipmdhfinlkceaaJW00
import Derived.Deep.Slices
import Derived.StillTail
import Derived.OrdersHeld
import Derived.Deep.RegionHeld
import Derived.Handy
import Derived.Maps.AppendAt
/- BoxN, LexEncode, LexJoin, LinesMath, LinesSeek, Slices, Stop, Tail, ValidMath, ValidNest, ValidSums, AppendAt, TreeMath, TreeMath2, ValidAns, ValidStepM, FlowMath, AtomsMath, AtomsSumsM, FlowInv, FlowRun. -/
set_option linter.unusedVariables false
set_option linter.unusedSimpArgs false
namespace Go.Proofs.Ytipmdhfinlkceaa
open Go.RowKit
def BoxN (W : World) (B : Nat) (t : TypeId) (vs : List Value) : Prop := W.heap[B]? = some (.cells vs.toArray t (0, 0))
theorem BoxN.lt {W : World} {B : Nat} {t : TypeId} {vs : List Value} (h : BoxN W B t vs) : B < W.heap.size := (Array.getElem?_eq_some_iff.1 h).1
theorem BoxN.box {W : World} {B : Nat} {t : TypeId} {vs : List Value} (h : BoxN W B t vs) : Box W B vs :=
  ⟨h.lt, fun o => by simp [World.frozen?, show W.heap[B]? = _ from h], fun j v hj => by simp [World.cell?, show W.heap[B]? = _ from h, hj]⟩
theorem BoxN.cell {W : World} {B : Nat} {t : TypeId} {vs : List Value} (h : BoxN W B t vs) {j : Nat} {v : Value} (hj : vs[j]? = some v) : W.cell? ⟨B, j, none⟩ = some v := h.box.2.2 j v hj
theorem BoxN.frozen {W : World} {B : Nat} {t : TypeId} {vs : List Value} (h : BoxN W B t vs) (j : Nat) : W.frozen? ⟨B, j, none⟩ = false := h.box.2.1 j
theorem BoxN.new (W : World) (t : TypeId) (vs : List Value) : BoxN (W.alloc (.cells vs.toArray t)) W.heap.size t vs := World.alloc_heap_new W _
theorem BoxN.kept {W W' : World} {row : Option Nat} {B : Nat} {t : TypeId} {vs : List Value} (h : BoxN W B t vs) (hg : W.grownBy W' row) (hne : some B ≠ row) : BoxN W' B t vs := (hg.block B h.lt hne).trans h
theorem BoxN.drew {W : World} {B : Nat} {t : TypeId} {vs : List Value} (h : BoxN W B t vs) : BoxN W.drew B t vs := h
theorem BoxN.alloc {W : World} {B : Nat} {t : TypeId} {vs : List Value} (h : BoxN W B t vs) (o : Obj) : BoxN (W.alloc o) B t vs := h.kept (World.grownBy_alloc W o none) (by simp)
theorem BoxN.below {W W' : World} {B n : Nat} {t : TypeId} {vs : List Value} (h : BoxN W B t vs) (hb : Below n W W') (hn : B < n) : BoxN W' B t vs := (hb.block B hn).trans h
theorem BoxN.set {W : World} {B : Nat} {t : TypeId} {vs : List Value} (h : BoxN W B t vs) (j : Nat) (v : Value) : BoxN (W.setCell ⟨B, j, none⟩ v) B t (vs.set j v) := by
  obtain ⟨hlt, hk⟩ := Array.getElem?_eq_some_iff.1 h
  show (W.heap.modify B _)[B]? = _
  rw [Array.getElem?_eq_getElem (by rw [Array.size_modify]; exact hlt), Array.getElem_modify_self, hk]
  simp
theorem BoxN.other {W : World} {B B' j : Nat} {t : TypeId} {vs : List Value} (h : BoxN W B t vs) (hne : B ≠ B') (u : Value) : BoxN (W.setCell ⟨B', j, none⟩ u) B t vs := by
  show (W.heap.modify B' _)[B]? = _
  rw [Array.getElem?_modify, if_neg (fun e => hne e.symm)]
  exact h
theorem grownBy_setCellN (W : World) (b j : Nat) (v : Value) : W.grownBy (W.setCell ⟨b, j, none⟩ v) (some b) :=
  ⟨rfl, rfl, rfl, (KeepsWalks.setCell W _ v).size, fun k _ hk => Below.heap_setCell _ _ _ k (fun e => hk (by rw [e]))⟩
end Go.Proofs.Ytipmdhfinlkceaa
namespace Go.Proofs.Ytipmdhfinlkceaa
open Go
theorem bAt_left (x y : ByteArray) (i : Nat) (h : i < x.size) : bAt (x ++ y) i = bAt x i := by
  unfold bAt
  congr 2
  show (x ++ y).data[i]! = x.data[i]!
  rw [ByteArray.data_append, getElem!_def, getElem!_def, Array.getElem?_append_left h]
theorem bAt_right (x y : ByteArray) (i : Nat) : bAt (x ++ y) (x.size + i) = bAt y i := by
  unfold bAt
  congr 2
  show (x ++ y).data[x.size + i]! = y.data[i]!
  have hs : x.data.size = x.size := rfl
  rw [ByteArray.data_append, getElem!_def, getElem!_def, Array.getElem?_append_right (by omega), hs, Nat.add_sub_cancel_left]
theorem tok_stands {s : ByteArray} {o : List Tok} {q k : Nat} {x : Tok} (h : lexB s = (some o, q)) (hx : o[k]? = some x) : ∃ p, TokOk s x p := by
  obtain ⟨e, l, hp, _⟩ := lexB_placed h
  have hk : k < o.length := (List.getElem?_eq_some_iff.1 hx).1
  obtain ⟨e', l', hp'⟩ := hp.take o.length rfl (k + 1) (by omega)
  have e2 : o.take (k + 1) = o.take k ++ [x] := by rw [List.take_add_one, hx]; rfl
  rw [e2] at hp'
  obtain ⟨e1, l1, p, _, ht, _⟩ := hp'.last
  exact ⟨p, ht⟩
structure Ln where
  from_ : Int
  to_ : Int
  x : Int
  y : Int
  w : Int
deriving DecidableEq
def Ln.none : Ln := ⟨0, 0, 0, 0, 0⟩
def encLn (x : Ln) : List Value := [.int .i64 x.from_, .int .i64 x.to_, .int .i64 x.x, .int .i64 x.y, .int .i64 x.w]
theorem encLn_len (x : Ln) : (encLn x).length = 5 := rfl
theorem encLn_one (x : Ln) : ∀ u ∈ encLn x, u.oneCell' = true := by
  intro u hu
  simp [encLn] at hu
  rcases hu with rfl | rfl | rfl | rfl | rfl <;> rfl
theorem seekF_ge {l : List Fl} {h w a b : Int} : ∀ (k : Nat) (y : Int), y ≤ seekF l h w a b k y
  | 0, y => Int.le_refl _
  | k + 1, y => by
    unfold seekF
    split
    · exact Int.le_refl _
    · split
      · rename_i hv
        obtain ⟨f, _, h1, h2⟩ := nextL_from hv
        have := seekF_ge (l := l) (h := h) (w := w) (a := a) (b := b) k (nextL l y h a b).1
        omega
      · exact Int.le_refl _
theorem seekE_ge {l : List Fl} {h w a b : Int} (y : Int) : y ≤ seekE l h w a b y := seekF_ge _ y
theorem seekF_le {l : List Fl} {h w a b M : Int} (hM : ∀ f ∈ l, f.y + f.h ≤ M) : ∀ (k : Nat) (y : Int), y ≤ M → seekF l h w a b k y ≤ M
  | 0, y, hy => hy
  | k + 1, y, hy => by
    unfold seekF
    split
    · exact hy
    · split
      · rename_i hv
        obtain ⟨f, h0, h1, h2⟩ := nextL_from hv
        exact seekF_le hM k _ (by rw [h2]; exact hM f h0)
      · exact hy
theorem seekE_le {l : List Fl} {h w a b M y : Int} (hM : ∀ f ∈ l, f.y + f.h ≤ M) (hy : y ≤ M) : seekE l h w a b y ≤ M := seekF_le hM _ y hy
def lineL (l : List Fl) (ws : List Int) (sp h a b : Int) (i : Nat) (y : Int) : Ln :=
  ⟨(i : Int), ((endP ws sp (lenW (bandL l (seekE l h (wordI ws i) a b y) h (a, b)).1 (bandL l (seekE l h (wordI ws i) a b y) h (a, b)).2) i : Nat) : Int), (bandL l (seekE l h (wordI ws i) a b y) h (a, b)).1, seekE l h (wordI ws i) a b y,
    wideN ws sp i (endP ws sp (lenW (bandL l (seekE l h (wordI ws i) a b y) h (a, b)).1 (bandL l (seekE l h (wordI ws i) a b y) h (a, b)).2) i)⟩
theorem lineL_to (l : List Fl) (ws : List Int) (sp h a b : Int) {i : Nat} (y : Int) (hi : i < ws.length) : ∃ j : Nat, (lineL l ws sp h a b i y).to_ = (j : Int) ∧ i < j ∧ j ≤ ws.length := by
  have := (endP_spec (zs := ws) (sp := sp) (wd := lenW (bandL l (seekE l h (wordI ws i) a b y) h (a, b)).1 (bandL l (seekE l h (wordI ws i) a b y) h (a, b)).2) hi).1
  exact ⟨_, rfl, this.1, this.2.1⟩
def lnsF (l : List Fl) (ws : List Int) (sp h a b : Int) : Nat → Nat → Int → List Ln
  | 0, _, _ => []
  | f + 1, i, y => if i < ws.length then lineL l ws sp h a b i y :: lnsF l ws sp h a b f (lineL l ws sp h a b i y).to_.toNat ((lineL l ws sp h a b i y).y + h) else []
def lnsL (l : List Fl) (ws : List Int) (sp h a b : Int) (i : Nat) (y : Int) : List Ln := lnsF l ws sp h a b (ws.length - i) i y
theorem lnsF_eq {l : List Fl} {ws : List Int} {sp h a b : Int} : ∀ (f g i : Nat) (y : Int), ws.length ≤ i + f → ws.length ≤ i + g → lnsF l ws sp h a b f i y = lnsF l ws sp h a b g i y
  | 0, 0, i, y, _, _ => rfl
  | 0, g + 1, i, y, hf, _ => by
    unfold lnsF
    rw [if_neg (by omega)]
  | f + 1, 0, i, y, _, hg => by
    unfold lnsF
    rw [if_neg (by omega)]
  | f + 1, g + 1, i, y, hf, hg => by
    unfold lnsF
    by_cases hi : i < ws.length
    · rw [if_pos hi, if_pos hi]
      obtain ⟨j, hj, h1, h2⟩ := lineL_to l ws sp h a b y hi
      rw [hj, Int.toNat_natCast]
      rw [lnsF_eq f g j _ (by omega) (by omega)]
    · rw [if_neg hi, if_neg hi]
theorem lnsL_end {l : List Fl} {ws : List Int} {sp h a b : Int} {i : Nat} {y : Int} (hi : ws.length ≤ i) : lnsL l ws sp h a b i y = [] := by
  unfold lnsL
  rw [show ws.length - i = 0 by omega]
  rfl
theorem lnsL_step {l : List Fl} {ws : List Int} {sp h a b : Int} {i : Nat} {y : Int} (hi : i < ws.length) :
    lnsL l ws sp h a b i y = lineL l ws sp h a b i y :: lnsL l ws sp h a b (lineL l ws sp h a b i y).to_.toNat ((lineL l ws sp h a b i y).y + h) := by
  obtain ⟨j, hj, h1, h2⟩ := lineL_to l ws sp h a b y hi
  unfold lnsL
  rw [show ws.length - i = (ws.length - i - 1) + 1 by omega]
  conv => lhs; unfold lnsF
  rw [if_pos hi, hj, Int.toNat_natCast]
  rw [lnsF_eq (ws.length - i - 1) (ws.length - j) j _ (by omega) (by omega)]
theorem lnsL_len {l : List Fl} {ws : List Int} {sp h a b : Int} : ∀ (f i : Nat) (y : Int), ws.length ≤ i + f → (lnsL l ws sp h a b i y).length + i ≤ ws.length + i ∧ (i ≤ ws.length → (lnsL l ws sp h a b i y).length + i ≤ ws.length)
  | 0, i, y, hf => by rw [lnsL_end (by omega)]; exact ⟨by simp, fun h => by simpa using h⟩
  | f + 1, i, y, hf => by
    by_cases hi : i < ws.length
    · rw [lnsL_step hi]
      obtain ⟨j, hj, h1, h2⟩ := lineL_to l ws sp h a b y hi
      rw [hj, Int.toNat_natCast]
      have := lnsL_len (l := l) (ws := ws) (sp := sp) (h := h) (a := a) (b := b) f j ((lineL l ws sp h a b i y).y + h) (by omega)
      simp only [List.length_cons]
      omega
    · rw [lnsL_end (by omega)]
      exact ⟨by simp, fun h => by simpa using h⟩
theorem lnsL_most {l : List Fl} {ws : List Int} {sp h a b : Int} (y : Int) : (lnsL l ws sp h a b 0 y).length ≤ ws.length := by
  have := (lnsL_len (l := l) (ws := ws) (sp := sp) (h := h) (a := a) (b := b) ws.length 0 y (by omega)).2 (by omega)
  omega
theorem bandL_mono {y h : Int} : ∀ (l : List Fl) (s : Int × Int), s.1 ≤ (bandL l y h s).1 ∧ (bandL l y h s).2 ≤ s.2
  | [], s => ⟨Int.le_refl _, Int.le_refl _⟩
  | f :: r, s => by
    have ih := bandL_mono (y := y) (h := h) r (bandStep y h s f)
    have h1 : s.1 ≤ (bandStep y h s f).1 ∧ (bandStep y h s f).2 ≤ s.2 := by
      unfold bandStep
      split
      · split
        · exact ⟨by simp only; omega, Int.le_refl _⟩
        · exact ⟨Int.le_refl _, by simp only; omega⟩
      · exact ⟨Int.le_refl _, Int.le_refl _⟩
    exact ⟨Int.le_trans h1.1 ih.1, Int.le_trans ih.2 h1.2⟩
theorem bandL_whole {y h a b : Int} : ∀ (l : List Fl), (∀ f ∈ l, narrowF y h a b f = false) → bandL l y h (a, b) = (a, b)
  | [], _ => rfl
  | f :: r, hn => by
    have h1 : bandStep y h (a, b) f = (a, b) := by
      have hf := hn f (by simp)
      unfold narrowF at hf
      unfold bandStep
      by_cases hm : meetsF f y h = true
      · rw [if_pos hm]
        rw [hm, Bool.true_and] at hf
        by_cases hs : f.side = 1
        · rw [if_pos hs] at hf ⊢
          have := of_decide_eq_false hf
          simp only
          rw [show max a (f.x + f.w) = a by omega]
        · rw [if_neg hs] at hf ⊢
          have := of_decide_eq_false hf
          simp only
          rw [show min b f.x = b by omega]
      · rw [if_neg hm]
    show bandL r y h (bandStep y h (a, b) f) = (a, b)
    rw [h1]
    exact bandL_whole r (fun g hg => hn g (List.mem_cons_of_mem _ hg))
theorem least_false {p : Fl → Bool} : ∀ (l : List Fl) (s : Int × Bool), (l.foldl (leastStep p) s).2 = false → s.2 = false ∧ ∀ f ∈ l, p f = false
  | [], s, h => ⟨h, fun f hf => by cases hf⟩
  | f :: r, s, h => by
    have ih := least_false r (leastStep p s f) h
    by_cases hp : p f = true
    · have h1 := ih.1
      unfold leastStep at h1
      rw [if_pos hp] at h1
      split at h1
      · cases h1
      · rename_i hn
        exact absurd (.inl h1) hn
    · have h1 := ih.1
      unfold leastStep at h1
      rw [if_neg hp] at h1
      refine ⟨h1, fun g hg => ?_⟩
      rcases List.mem_cons.1 hg with rfl | hr
      · simpa using hp
      · exact ih.2 g hr
theorem next_none_whole {l : List Fl} {y h a b : Int} (hv : (nextL l y h a b).2 = false) : bandL l y h (a, b) = (a, b) := bandL_whole l (least_false l _ hv).2
end Go.Proofs.Ytipmdhfinlkceaa
namespace Go.Proofs.Ytipmdhfinlkceaa
open Go.ChangeShapes Go.WideShapes Go.ChangeAt Go.RowKit
def Rows {α : Type} (k : Nat) (enc : α → List Value) (w : World) (A : Option Addr) (n : Nat) (zs : List α) : Prop :=
  zs.length = n ∧ n ≤ 9223372036854775807 ∧ (0 < n → ∃ b off, A = some ⟨b, off, none⟩ ∧ b < w.heap.size ∧ ∀ i x, zs[i]? = some x → ∀ j v, (enc x)[j]? = some v → w.cell? ⟨b, off + i * k + j, none⟩ = some v)
section
variable {α : Type} {k : Nat} {enc : α → List Value} {w w' : World} {A : Option Addr} {n : Nat} {zs : List α}
theorem Rows.nil (w : World) (A : Option Addr) : Rows k enc w A 0 [] := ⟨rfl, by decide, fun h => absurd h (by decide)⟩
theorem Rows.len (h : Rows k enc w A n zs) : zs.length = n := h.1
theorem Rows.below (h : Rows k enc w A n zs) (hb : Below w.heap.size w w') : Rows k enc w' A n zs :=
  ⟨h.1, h.2.1, fun hn => by
    obtain ⟨b, off, e, hl, hc⟩ := h.2.2 hn
    have := hb.size
    exact ⟨b, off, e, by omega, fun i x hx j v hv => (below_cell hb hl).trans (hc i x hx j v hv)⟩⟩
theorem Rows.drew (h : Rows k enc w A n zs) : Rows k enc w.drew A n zs := h.below ((Below.refl _ _).drew)
theorem Rows.on (h : Rows k enc w A n zs) (ho : On w w') : Rows k enc w' A n zs := h.below ho
theorem Rows.at_ (h : Rows k enc w A n zs) {i : Nat} (hi : i < n) : ∃ b off x, A = some ⟨b, off, none⟩ ∧ b < w.heap.size ∧ zs[i]? = some x ∧ ∀ j v, (enc x)[j]? = some v → w.cell? ⟨b, off + i * k + j, none⟩ = some v := by
  obtain ⟨b, off, e, hl, hc⟩ := h.2.2 (by omega)
  have hx : zs[i]? = some (zs[i]'(by rw [h.1]; exact hi)) := List.getElem?_eq_getElem _
  exact ⟨b, off, _, e, hl, hx, hc i _ hx⟩
theorem flat_get (hk : ∀ x : α, (enc x).length = k) : ∀ (zs : List α) (i : Nat) (x : α) (j : Nat) (v : Value), zs[i]? = some x → (enc x)[j]? = some v → (zs.flatMap enc)[i * k + j]? = some v
  | [], i, x, j, v, h, _ => by simp at h
  | z :: zs, 0, x, j, v, h, hv => by
    simp only [List.getElem?_cons_zero, Option.some.injEq] at h
    subst h
    rw [Nat.zero_mul, Nat.zero_add, List.flatMap_cons, List.getElem?_append_left (List.getElem?_eq_some_iff.1 hv).1]; exact hv
  | z :: zs, i + 1, x, j, v, h, hv => by
    rw [List.flatMap_cons, List.getElem?_append_right (by rw [hk, Nat.add_mul, Nat.one_mul]; omega), hk, show (i + 1) * k + j - k = i * k + j by rw [Nat.add_mul, Nat.one_mul]; omega]
    exact flat_get hk zs i x j v (by simpa using h) hv
theorem flat_len (hk : ∀ x : α, (enc x).length = k) (zs : List α) : (zs.flatMap enc).length = zs.length * k := by
  induction zs with
  | nil => simp
  | cons z zs ih => rw [List.flatMap_cons, List.length_append, hk, ih, List.length_cons, Nat.add_mul, Nat.one_mul]; omega
theorem Rows.cells (hk : ∀ x : α, (enc x).length = k) (h0 : 0 < k) (h : Rows k enc w A n zs) : Cells w A n k (zs.flatMap enc) := by
  obtain ⟨h1, h2, h3⟩ := h
  refine ⟨by rw [flat_len hk, h1], h2, fun hn => ?_⟩
  obtain ⟨b, off, e, hb, hc⟩ := h3 hn
  refine ⟨b, off, e, hb, fun j u hu => ?_⟩
  have hj : j < zs.length * k := by rw [← flat_len hk]; exact (List.getElem?_eq_some_iff.1 hu).1
  have hi : j / k < zs.length := Nat.div_lt_of_lt_mul (by rw [Nat.mul_comm]; exact hj)
  have hx : zs[j / k]? = some (zs[j / k]) := List.getElem?_eq_getElem hi
  have hm : j % k < (enc (zs[j / k])).length := by rw [hk]; exact Nat.mod_lt _ h0
  have hv : (enc (zs[j / k]))[j % k]? = some ((enc (zs[j / k]))[j % k]) := List.getElem?_eq_getElem hm
  have e1 := flat_get hk zs (j / k) _ (j % k) _ hx hv
  have e2 : j / k * k + j % k = j := by rw [Nat.mul_comm]; exact Nat.div_add_mod j k
  rw [e2] at e1
  rw [e1] at hu
  have := hc _ _ hx _ _ hv
  rw [Nat.add_assoc, e2] at this
  rw [this, hu]
theorem Cells.rows (hk : ∀ x : α, (enc x).length = k) (h0 : 0 < k) (h : Cells w A n k (zs.flatMap enc)) : Rows k enc w A n zs := by
  obtain ⟨h1, h2, h3⟩ := h
  rw [flat_len hk] at h1
  refine ⟨Nat.eq_of_mul_eq_mul_right h0 h1, h2, fun hn => ?_⟩
  obtain ⟨b, off, e, hb, hc⟩ := h3 hn
  exact ⟨b, off, e, hb, fun i x hx j v hv => by rw [Nat.add_assoc]; exact hc _ _ (flat_get hk zs i x j v hx hv)⟩
theorem ownsRow_rows {base : Nat} {e : TypeId} {c : Nat} (hk : ∀ x : α, (enc x).length = k) (h0 : 0 < k) (h : w.ownsRow base e k (.slice A n c) n (zs.flatMap enc)) : Rows k enc w A n zs := (ownsRow_cells h).rows hk h0
end
theorem owns_below {w w' : World} {base : Nat} {e : TypeId} {size : Nat} {v : Value} {n : Nat} {xs : List Value} (h : w.ownsRow base e size v n xs) (hb : Below w.heap.size w w') : w'.ownsRow base e size v n xs := by
  refine ⟨h.1, ?_⟩
  rcases h.2 with h2 | ⟨g, cap, cur, h1, h2, h3, h4⟩
  · exact .inl h2
  · have hlt : g < w.heap.size := by
      rcases Nat.lt_or_ge g w.heap.size with h' | h'
      · exact h'
      · rw [Array.getElem?_eq_none h'] at h3; cases h3
    exact .inr ⟨g, cap, cur, h1, h2, (hb.block g hlt).trans h3, h4⟩
theorem owns_block {w : World} {base : Nat} {e : TypeId} {size : Nat} {v : Value} {n : Nat} {xs : List Value} (h : w.ownsRow base e size v n xs) : ∀ k, v.ownBlock = some k → base ≤ k := by
  intro k hk
  rcases h.2 with ⟨rfl, _⟩ | ⟨g, cap, cur, rfl, h2, _⟩
  · cases hk
  · injection hk with hk; subst hk; exact h2
theorem owns_block_lt {w : World} {base : Nat} {e : TypeId} {size : Nat} {v : Value} {n : Nat} {xs : List Value} (h : w.ownsRow base e size v n xs) : ∀ k, v.ownBlock = some k → k < w.heap.size := by
  intro k hk
  rcases h.2 with ⟨rfl, _⟩ | ⟨g, cap, cur, rfl, h2, h3, _⟩
  · cases hk
  · injection hk with hk; subst hk
    show g < w.heap.size
    rcases Nat.lt_or_ge g w.heap.size with h' | h'
    · exact h'
    · rw [Array.getElem?_eq_none h'] at h3; cases h3
theorem Box.grown {w w' : World} {n : Nat} {vs : List Value} {row : Option Nat} (h : Box w n vs) (hg : w.grownBy w' row) (hr : ∀ k, row = some k → k ≠ n) : Box w' n vs := by
  have hb : w'.heap[n]? = w.heap[n]? := hg.block n h.lt (fun e => hr n e.symm rfl)
  exact ⟨Nat.lt_of_lt_of_le h.1 hg.size, fun o => (World.frozen?_of_block (w := w) (a := ⟨n, o, none⟩) hb).trans (h.2.1 o), fun j v hv => (World.cell?_of_block (w := w) (a := ⟨n, j, none⟩) hb).trans (h.2.2 j v hv)⟩
theorem owns_nil (w : World) (base : Nat) (e : TypeId) (size : Nat) : w.ownsRow base e size (.slice none 0 0) 0 [] := ⟨by simp, .inl ⟨rfl, rfl⟩⟩
theorem list_choose {α : Type} {p : Nat → α → Prop} : ∀ {n : Nat}, (∀ i, i < n → ∃ x, p i x) → ∃ zs : List α, zs.length = n ∧ ∀ i x, zs[i]? = some x → p i x
  | 0, _ => ⟨[], rfl, fun i x h => by simp at h⟩
  | n + 1, hx => by
    obtain ⟨zs, h1, h2⟩ := list_choose (n := n) (fun i hin => hx i (by omega))
    obtain ⟨x, hx1⟩ := hx n (by omega)
    refine ⟨zs ++ [x], by simp [h1], fun i y hy => ?_⟩
    rcases Nat.lt_or_ge i zs.length with hlt | hge
    · rw [List.getElem?_append_left hlt] at hy; exact h2 i y hy
    · rw [List.getElem?_append_right hge] at hy
      have e : i = zs.length := by
        have := (List.getElem?_eq_some_iff.1 hy).1; simp at this; omega
      subst e
      simp at hy
      subst hy
      rw [h1]; exact hx1
section
variable {H : Type} {enc : TypeId × Value → H} {P : Program} {W : World}
theorem open_rows {α : Type} {k : Nat} (ea : α → List Value) (good : α → Prop) {base : Nat} {t e : TypeId} {v : Value} {d : DataW H} {p : List MemPlace} (ht : P.underlying t = some (.slice e)) (hC : P.cellsOf e = k) (h0 : 0 < k) (hk : ∀ x : α, (ea x).length = k)
    (hdec : ∀ fuel cs y, DataW.trod enc P W 0 (fun _ => true) true fuel e cs = some y → ∃ x, cs = ea x ∧ good x)
    (hv : Value.okWide P W .any base t v) (h : DataW.Trod enc P W 0 (fun _ => true) true t v d p) :
    ∃ A n c zs, v = .slice A n c ∧ n ≤ c ∧ c ≤ maxLen ∧ Rows k ea W A n zs ∧ ∀ z ∈ zs, good z := by
  obtain ⟨A, n, c, rfl⟩ := okWide_slice ht hv
  obtain ⟨fuel, hf⟩ := h
  rcases Go.Deep.open_slice ht hf with ⟨hcs, _⟩ | ⟨a, len, cap, m, fu, D, Pl, hcs, _, hl, hm, hmm, _, hi⟩
  · simp [Value.cells] at hcs
    obtain ⟨rfl, rfl, rfl⟩ := hcs
    exact ⟨_, _, _, [], rfl, Nat.le_refl _, by decide, Rows.nil _ _, by simp⟩
  · simp [Value.cells] at hcs
    obtain ⟨rfl, rfl, rfl⟩ := hcs
    simp only [if_true] at hmm
    rw [hC] at hi
    have hx : ∀ i, i < n → ∃ x, W.cells? 0 (a.add (i * k)) k = some (ea x) ∧ good x := by
      intro i hin
      obtain ⟨cs', hc', ht'⟩ := hi i (by omega)
      obtain ⟨x, rfl, hg⟩ := hdec _ _ _ ht'
      exact ⟨x, hc', hg⟩
    have hex := list_choose (p := fun i x => W.cells? 0 (a.add (i * k)) k = some (ea x) ∧ good x) hx
    obtain ⟨zs, h1, h2⟩ := hex
    obtain ⟨b, off, spot⟩ := a
    refine ⟨_, _, _, zs, rfl, hl, hm, ⟨h1, by unfold maxLen at hm; omega, fun hn => ?_⟩, fun z hz => ?_⟩
    · have hcell : ∀ i x, zs[i]? = some x → ∀ j v, (ea x)[j]? = some v → W.cell? ((⟨b, off, spot⟩ : Addr).add (i * k + j)) = some v := by
        intro i x hx j v hv
        obtain ⟨hc, _⟩ := h2 i x hx
        obtain ⟨_, hlen, hat⟩ := World.cells?_some hc
        have hj : j < k := by rw [← hk x]; exact (List.getElem?_eq_some_iff.1 hv).1
        have := hat j hj
        rw [hv, Go.Deep.add_add] at this
        exact this
      have hz0 : zs[0]? = some (zs[0]'(by omega)) := List.getElem?_eq_getElem _
      have hv0 : (ea (zs[0]'(by omega)))[0]? = some ((ea (zs[0]'(by omega)))[0]'(by rw [hk]; exact h0)) := List.getElem?_eq_getElem _
      have hc0 := hcell 0 _ hz0 0 _ hv0
      have hspot : spot = none := by simpa [Addr.add] using World.cell?_spot hc0
      subst hspot
      refine ⟨b, off, rfl, ?_, fun i x hx j v hv => ?_⟩
      · have := cell_lt hc0; simpa [Addr.add] using this
      · have := hcell i x hx j v hv
        rwa [add_plain, ← Nat.add_assoc] at this
    · obtain ⟨i, hi2⟩ := List.mem_iff_getElem?.1 hz
      exact (h2 i z hi2).2
end
end Go.Proofs.Ytipmdhfinlkceaa
namespace Go.Proofs.Ytipmdhfinlkceaa
open Go.RowKit
def Stop (p : Prop) : Prop := p
theorem Stop.intro {p : Prop} (h : p) : Stop p := h
section
variable {P : Program} {ops : Array Oper} {rest : List Oper} {o : Oper} {a : Act} {w : World} {Q : Exit → Act → World → Prop}
theorem stop_load (t : TypeId) (x : Operand) (ho : o.op = .load t x) (h : Stop (wpList P ops Q (o :: rest) a w)) : wpList P ops Q (o :: rest) a w := h
theorem stop_store (t : TypeId) (x y : Operand) (ho : o.op = .store t x y) (h : Stop (wpList P ops Q (o :: rest) a w)) : wpList P ops Q (o :: rest) a w := h
theorem stop_dst (d : Nat) (ho : o.dst = some d) (h : Stop (wpList P ops Q (o :: rest) a w)) : wpList P ops Q (o :: rest) a w := h
end
end Go.Proofs.Ytipmdhfinlkceaa
namespace Go.Proofs.Ytipmdhfinlkceaa
open Go
section
variable {P : Program} {ops : Array Oper} {Q : Exit → Act → World → Prop}
def headOf (ops : Array Oper) (n : Nat) : Array Oper := (ops.toList.take n).toArray
theorem headOf_lt {n i : Nat} (h : i < n) : (headOf ops n)[i]? = ops[i]? := by
  unfold headOf; simp [List.getElem?_take, h]
theorem headOf_ge {n i : Nat} (h : n ≤ i) : (headOf ops n)[i]? = none := by
  unfold headOf; simp [List.getElem?_take, Nat.not_lt.2 h]
theorem headOf_size {n : Nat} (h : n ≤ ops.size) : (headOf ops n).size = n := by
  unfold headOf; simp; omega
def TailPost (P : Program) (ops : Array Oper) (o : Oper) (Q : Exit → Act → World → Prop) : Exit → Act → World → Prop
  | .normal, a, w => wpList P ops Q [o] a w
  | e, a, w => Q e a w
def backB (ops : Array Oper) : Bool := (List.range ops.size).all fun i => match ops[i]? with
  | some o => (o.after.all fun e => decide (e.on < i)) && (match o.guard with | some (g, _) => decide (g < i) | none => true)
  | none => true
theorem backB_spec (h : backB ops = true) {i : Nat} {o : Oper} (ho : ops[i]? = some o) : (∀ e ∈ o.after, e.on < i) ∧ ∀ g b, o.guard = some (g, b) → g < i := by
  have hlt : i < ops.size := (Array.getElem?_eq_some_iff.1 ho).1
  have h1 := List.all_eq_true.1 h i (List.mem_range.2 hlt)
  simp only [ho, Bool.and_eq_true] at h1
  refine ⟨fun e he => ?_, fun g b hg => ?_⟩
  · have := Array.all_eq_true_iff_forall_mem.1 h1.1 e he
    simpa using this
  · have := h1.2
    rw [hg] at this
    simpa using this
theorem wp_tail {o' o : Oper} {a : Act} {w : World} {K K' : Act → World → Prop} (h : ∀ a w, K a w → K' a w)
    (hh : o.wp P a w K (TailPost P ops o' Q)) : o.wp P a w K' Q := by
  unfold Oper.wp at *
  generalize (execOp a.eval o).run P w = r at *
  cases r with
  | ok n w' =>
    cases n <;> simp only [Oper.upon] at hh ⊢ <;>
      first
        | exact h _ _ hh
        | exact Calls.mono hh (fun e w'' he => by cases e <;> first | exact h _ _ he | exact he)
        | exact Rows.mono hh (fun _ _ he => h _ _ he)
  | halt x w' => cases x <;> simp only [Oper.upon] at hh ⊢ <;> exact hh
theorem wanted_head {n i : Nat} (hb : backB ops = true) (hi : i < n) {o : Oper} (ho : ops[i]? = some o) (t : Array Value) :
    Region.wanted o (yielded (headOf ops n) t) = Region.wanted o (yielded ops t) := by
  unfold Region.wanted
  cases hg : o.guard with
  | none => rfl
  | some p =>
    obtain ⟨g, b⟩ := p
    have hlt := (backB_spec hb ho).2 g b hg
    show (yielded (headOf ops n) t g == some b) = (yielded ops t g == some b)
    unfold yielded
    rw [headOf_lt (by omega)]
theorem wpOp_tail {n i : Nat} {o' : Oper} (hb : backB ops = true) (hi : i < n) {a : Act} {w : World} {K K' : Act → World → Prop} (h : ∀ a w, K a w → K' a w)
    (hh : wpOp P (headOf ops n) (TailPost P ops o' Q) i K a w) : wpOp P ops Q i K' a w := by
  unfold wpOp at *
  rw [headOf_lt hi] at hh
  cases ho : ops[i]? with
  | none => simp only [ho] at hh; exact h _ _ hh
  | some o =>
    simp only [ho] at hh ⊢
    rw [wanted_head hb hi ho] at hh
    split
    · rename_i hw
      simp only [hw, if_true] at hh
      rcases hh with hh | ⟨h1, h2⟩
      · exact .inl (wp_tail h hh)
      · exact .inr ⟨h1, h2⟩
    · rename_i hw; simp only [hw] at hh; exact h _ _ hh
theorem wpAny_done {md : Region.Mode} {listed : Array Bool} {a : Act} {w : World} (hr : Region.ready md ops listed = []) (h : Q .normal a w) : ∀ f, wpAny P md ops Q f listed a w
  | 0 => ⟨hr, h⟩
  | f + 1 => ⟨fun _ => h, fun i hi => by rw [hr] at hi; cases hi⟩
theorem ready_head {n : Nat} (hb : backB ops = true) {listed listedH : Array Bool} (hl : ∀ i, i < n → listedH[i]? = listed[i]?) {i : Nat} (hi : i < n) :
    i ∈ Region.ready .any (headOf ops n) listedH ↔ i ∈ Region.ready .any ops listed := by
  have hg : ∀ j d, j < n → listedH.getD j d = listed.getD j d := fun j d hj => by rw [Array.getD_eq_getD_getElem?, Array.getD_eq_getD_getElem?, hl j hj]
  rw [mem_ready, mem_ready, headOf_lt hi, hg i _ hi]
  constructor
  · rintro ⟨h0, o, ho, h⟩
    exact ⟨h0, o, ho, fun e he hm => by rw [← hg _ _ (Nat.lt_trans ((backB_spec hb ho).1 e he) hi)]; exact h e he hm⟩
  · rintro ⟨h0, o, ho, h⟩
    exact ⟨h0, o, ho, fun e he hm => by rw [hg _ _ (Nat.lt_trans ((backB_spec hb ho).1 e he) hi)]; exact h e he hm⟩
theorem tailEnd {n f : Nat} {o : Oper} {listed listedH : Array Bool} {a : Act} {w : World} (hsz : ops.size = n + 1) (hb : backB ops = true) (ho : ops[n]? = some o)
    (hr : Region.ready .any (headOf ops n) listedH = []) (h : TailPost P ops o Q .normal a w) (inv : HeadInv .any ops n listed) (hl : ∀ i, i < n → listedH[i]? = listed[i]?) : wpAny P .any ops Q (f + 1) listed a w := by
  have hsl : listed.size = n + 1 := inv.size.trans hsz
  have both : ∀ i, i < n + 1 → ∀ b, listed.getD i true = b → listed.getD i false = b := fun i hi b hb' => by
    simp only [Array.getD_eq_getD_getElem?, Array.getElem?_eq_getElem (by omega : i < listed.size), Option.getD_some] at hb' ⊢
    exact hb'
  have hall : ∀ i, i < n → listed.getD i true = true := by
    intro i
    induction i using Nat.strongRecOn with
    | _ i ih =>
      intro hi
      cases hv : listed.getD i true with
      | true => rfl
      | false =>
        exfalso
        have hoi : ops[i]? = some ops[i] := Array.getElem?_eq_getElem (by omega)
        have hm : i ∈ Region.ready .any ops listed := mem_ready.2 ⟨hv, ops[i], hoi, fun e he _ => by
          have hlt := (backB_spec hb hoi).1 e he
          exact both _ (by omega) _ (ih e.on hlt (by omega))⟩
        have := (ready_head hb hl hi).2 hm
        rw [hr] at this; cases this
  have hn : n ∈ Region.ready .any ops listed := mem_ready.2 ⟨inv.tail n (Nat.le_refl _) (by omega), o, ho, fun e he _ => by
    have hlt := (backB_spec hb ho).1 e he
    exact both _ (by omega) _ (hall e.on hlt)⟩
  refine ⟨fun h0 => (by rw [h0] at hn; cases hn), fun i hi => ?_⟩
  have hin : i = n := by
    obtain ⟨h0, oi, hoi, _⟩ := mem_ready.1 hi
    have hlt : i < ops.size := (Array.getElem?_eq_some_iff.1 hoi).1
    rcases Nat.lt_or_ge i n with h' | h'
    · rw [hall i h'] at h0; cases h0
    · omega
  subst hin
  have hnil : Region.ready .any ops (listed.setIfInBounds i true) = [] := by
    rw [List.eq_nil_iff_forall_not_mem]
    intro j hj
    obtain ⟨h0, oj, hoj, _⟩ := mem_ready.1 hj
    have hlt : j < ops.size := (Array.getElem?_eq_some_iff.1 hoj).1
    by_cases hij : i = j
    · subst hij
      simp [Array.getD_eq_getD_getElem?, Array.getElem?_setIfInBounds, hsl] at h0
    · rw [getD_set_ne true hij] at h0
      rw [hall j (by omega)] at h0; cases h0
  have hdone : ∀ a' w', wpList P ops Q [] a' w' → wpAny P .any ops Q f (listed.setIfInBounds i true) a' w' := fun a' w' hq => wpAny_done hnil hq f
  have h' : wpList P ops Q [o] a w := h
  unfold wpList at h'
  unfold wpOp
  simp only [ho]
  split
  · rename_i hw
    simp only [hw, if_true] at h'
    exact h'.imp (Oper.wp_mono hdone) id
  · rename_i hw
    simp only [hw] at h'
    exact hdone _ _ h'
def tailB (ops : Array Oper) (n : Nat) : Bool := ops.size == n + 1 && Region.sinkB .any ops n && backB ops
theorem wpAny_tail {n : Nat} {o : Oper} (hsz : ops.size = n + 1) (hs : Region.sinkB .any ops n = true) (hb : backB ops = true) (ho : ops[n]? = some o) :
    ∀ (f : Nat) (listed listedH : Array Bool) (a : Act) (w : World), HeadInv .any ops n listed → (∀ i, i < n → listedH[i]? = listed[i]?) →
      wpAny P .any (headOf ops n) (TailPost P ops o Q) f listedH a w → wpAny P .any ops Q (f + 1) listed a w := by
  have hc : Region.chainB .any ops n = true := List.all_eq_true.2 fun t ht => by
    have := List.mem_range.1 ht
    simp only [Bool.or_eq_true, decide_eq_true_eq]; left; omega
  intro f
  induction f with
  | zero =>
    intro listed listedH a w inv hl h
    exact tailEnd hsz hb ho h.1 h.2 inv hl
  | succ f ih =>
    intro listed listedH a w inv hl h
    by_cases hr : Region.ready .any (headOf ops n) listedH = []
    · exact tailEnd hsz hb ho hr (h.1 hr) inv hl
    · obtain ⟨i0, hi0⟩ := List.exists_mem_of_ne_nil _ hr
      have hi0n : i0 < n := by
        obtain ⟨_, o0, ho0, _⟩ := mem_ready.1 hi0
        rcases Nat.lt_or_ge i0 n with h' | h'
        · exact h'
        · rw [headOf_ge h'] at ho0; cases ho0
      have hi0' := (ready_head hb hl hi0n).1 hi0
      refine ⟨fun h0 => (by rw [h0] at hi0'; cases hi0'), fun i hi => ?_⟩
      rcases Nat.lt_or_ge i n with hin | hin
      · refine wpOp_tail hb hin (fun a' w' h' => ih _ _ a' w' (inv.set hi hin) (fun j hj => ?_) h') (h.2 i ((ready_head hb hl hin).2 hi))
        rw [Array.getElem?_setIfInBounds, Array.getElem?_setIfInBounds]
        have hsl : listed.size = n + 1 := inv.size.trans hsz
        have hsH : i < listedH.size := by
          have e1 := hl i hin
          rw [Array.getElem?_eq_getElem (by omega : i < listed.size)] at e1
          exact (Array.getElem?_eq_some_iff.1 e1).1
        by_cases hij : i = j
        · subst hij; rw [if_pos rfl, if_pos rfl, if_pos hsH, if_pos (by omega)]
        · rw [if_neg hij, if_neg hij]; exact hl j hj
      · exact absurd hi (tail_waits hs hc (by omega) inv _ i0 rfl hi0n (mem_ready.1 hi0').1 i hin)
theorem wp_region_tail (n : Nat) {id : Nat} {o : Oper} {a : Act} {w : World} (hm : P.follows .mixedOrders = true) (hB : tailB ops n = true) (ho : ops[n]? = some o)
    (h : wpAny P .any (headOf ops n) (TailPost P ops o Q) n (Array.replicate n false) a w.drew) : (Code.region id ops true).wp P Q a w := by
  unfold tailB at hB
  simp only [Bool.and_eq_true, beq_iff_eq] at hB
  obtain ⟨⟨hsz, hs⟩, hb⟩ := hB
  refine wp_region_any hm ?_
  rw [hsz]
  refine wpAny_tail hsz hs hb ho n (Array.replicate (n + 1) false) (Array.replicate n false) a w.drew ?_ (fun i hi => ?_) h
  · exact ⟨by simp [hsz], fun j oj hj hl => absurd hl (by rw [getD_replicate_false]; decide), fun t ht ht2 => by
      have : t = n := by omega
      subst this; simp⟩
  · rw [Array.getElem?_replicate, Array.getElem?_replicate, if_pos hi, if_pos (by omega)]
theorem wp_region_on_tail (n : Nat) {id : Nat} {o : Oper} {a : Act} {W : World} (hm : P.follows .mixedOrders = true) (hB : tailB ops n = true) (ho : ops[n]? = some o) (hL : Region.lexB .any (headOf ops n) = true)
    (h : wpQuiet P (headOf ops n) (fun w' => ∃ p : OnW W, w' = p.w) (fun a' => ∀ w', (∃ p : OnW W, w' = p.w) → wpList P ops Q [o] a' w') (headOf ops n).toList a) : (Code.region id ops true).wp P Q a W := by
  have hsz : ops.size = n + 1 := by
    unfold tailB at hB
    simp only [Bool.and_eq_true, beq_iff_eq] at hB
    exact hB.1.1
  have hn : (headOf ops n).size = n := headOf_size (by omega)
  simp only [Region.lexB, Bool.and_eq_true] at hL
  refine wp_region_tail n hm hB ho ?_
  refine wpAny_of_quiet (C := fun w' => ∃ p : OnW W, w' = p.w) (Q := fun a' => ∀ w', (∃ p : OnW W, w' = p.w) → wpList P ops Q [o] a' w') (fun _ w' hw' h => h w' hw') _ _ _ _ ⟨⟨W.drew, (On.refl W).drew⟩, rfl⟩ ?_
  have := wpAnyQ_lex (C := fun w' => ∃ p : OnW W, w' = p.w) (md := .any) hL.1 (headOf ops n).toList 0 (Array.replicate (headOf ops n).size false) a (by simp) (by simpa using hL.2) h
  rw [hn] at this
  simpa [hn] using this
theorem wp_region_held_tail (n : Nat) {id : Nat} {o : Oper} {a : Act} {w : World} {S : World → Prop} (hm : P.follows .mixedOrders = true) (hB : tailB ops n = true) (ho : ops[n]? = some o) (hS : S w.drew)
    (h : S w.drew → wpAnyH P .any (headOf ops n) (TailPost P ops o Q) S n (Array.replicate n false) a w.drew) : (Code.region id ops true).wp P Q a w :=
  wp_region_tail n hm hB ho (wpAny_of_held _ _ _ _ (h hS))
end
end Go.Proofs.Ytipmdhfinlkceaa
namespace Go.Proofs.Ytipmdhfinlkceaa
open Go
def fromB (n lo hi : Int) : Bool := decide (lo ≤ n) && decide (n ≤ hi)
theorem fromB_iff (n lo hi : Int) : fromB n lo hi = true ↔ okN n lo hi := by unfold fromB okN; simp
def styOkB (s : Sty) : Bool := fromB s.top 0 maxN && fromB s.bottom 0 maxN && fromB s.padTop 0 maxN && fromB s.padBottom 0 maxN && fromB s.inset 0 maxN && fromB s.orphans 1 maxN && fromB s.widows 1 maxN && fromB s.head 0 maxN && fromB s.before 0 4 && fromB s.after 0 4 && fromB s.inside 0 1 && fromB s.clear 0 3
theorem styOkB_iff (s : Sty) : styOkB s = true ↔ s.fits := by
  unfold styOkB Sty.fits
  simp only [Bool.and_eq_true, fromB_iff]
  constructor
  · rintro ⟨⟨⟨⟨⟨⟨⟨⟨⟨⟨⟨h1, h2⟩, h3⟩, h4⟩, h5⟩, h6⟩, h7⟩, h8⟩, h9⟩, h10⟩, h11⟩, h12⟩
    exact ⟨⟨h1, h2, h3, h4, h5, h6⟩, h7, h8, h9, h10, h11, h12⟩
  · rintro ⟨⟨h1, h2, h3, h4, h5, h6⟩, h7, h8, h9, h10, h11, h12⟩
    exact ⟨⟨⟨⟨⟨⟨⟨⟨⟨⟨⟨h1, h2⟩, h3⟩, h4⟩, h5⟩, h6⟩, h7⟩, h8⟩, h9⟩, h10⟩, h11⟩, h12⟩
def oneB (x : Nd) : Bool :=
  if x.kind = 1 then styOkB x.sty && decide (x.line = 0) && decide (x.space = 0) && decide (x.words = []) && decide (x.side = 0) && decide (x.w = 0) && decide (x.h = 0)
  else if x.sty ≠ .none then false
  else if x.kind = 2 then (x.words.all fun n => fromB n 1 maxN) && decide (x.words ≠ []) && fromB x.line 1 maxN && fromB x.space 0 maxN && decide (x.side = 0) && decide (x.w = 0) && decide (x.h = 0)
  else if x.line ≠ 0 ∨ x.space ≠ 0 ∨ x.words ≠ [] ∨ fromB x.w 1 maxN = false ∨ fromB x.h 1 maxN = false then false
  else (decide (x.kind = 3) && decide (x.side = 0)) || (decide (x.kind = 4) && fromB x.side 1 2)
theorem oneB_iff (x : Nd) : oneB x = true ↔ x.fits := by
  obtain ⟨k, size, s, line, space, ws, side, w, h⟩ := x
  unfold oneB Nd.fits
  simp only
  by_cases h1 : k = 1
  · subst h1
    simp only [if_true, Bool.and_eq_true, decide_eq_true_eq, styOkB_iff]
    constructor
    · rintro ⟨⟨⟨⟨⟨⟨a1, a2⟩, a3⟩, a4⟩, a5⟩, a6⟩, a7⟩
      exact .inl ⟨trivial, a1, a2, a3, a4, a6, a7, a5⟩
    · rintro (⟨_, a1, a2, a3, a4, a6, a7, a5⟩ | ⟨e, _⟩ | ⟨e, _⟩ | ⟨e, _⟩)
      · exact ⟨⟨⟨⟨⟨⟨a1, a2⟩, a3⟩, a4⟩, a5⟩, a6⟩, a7⟩
      · exact absurd e (by decide)
      · exact absurd e (by decide)
      · exact absurd e (by decide)
  rw [if_neg h1]
  by_cases h2 : s = .none
  rotate_left
  · rw [if_pos h2]
    constructor
    · intro e; cases e
    · rintro (⟨e, _⟩ | ⟨_, e, _⟩ | ⟨_, e, _⟩ | ⟨_, e, _⟩)
      · exact absurd e h1
      · exact absurd e h2
      · exact absurd e h2
      · exact absurd e h2
  rw [if_neg (by simpa using h2)]
  by_cases h3 : k = 2
  · subst h3
    simp only [if_true, Bool.and_eq_true, decide_eq_true_eq, List.all_eq_true, fromB_iff]
    constructor
    · rintro ⟨⟨⟨⟨⟨⟨a1, a2⟩, a3⟩, a4⟩, a5⟩, a6⟩, a7⟩
      exact .inr (.inl ⟨trivial, h2, a3, a4, a2, a1, a6, a7, a5⟩)
    · rintro (⟨e, _⟩ | ⟨_, _, a3, a4, a2, a1, a6, a7, a5⟩ | ⟨e, _⟩ | ⟨e, _⟩)
      · exact absurd e (by decide)
      · exact ⟨⟨⟨⟨⟨⟨a1, a2⟩, a3⟩, a4⟩, a5⟩, a6⟩, a7⟩
      · exact absurd e (by decide)
      · exact absurd e (by decide)
  rw [if_neg h3]
  by_cases h4 : line ≠ 0 ∨ space ≠ 0 ∨ ws ≠ [] ∨ fromB w 1 maxN = false ∨ fromB h 1 maxN = false
  · rw [if_pos h4]
    constructor
    · intro e; cases e
    · have no : ¬ (line = 0 ∧ space = 0 ∧ ws = [] ∧ okN w 1 maxN ∧ okN h 1 maxN) := by
        rintro ⟨a1, a2, a3, a4, a5⟩
        rw [← fromB_iff] at a4 a5
        rcases h4 with e | e | e | e | e
        · exact e a1
        · exact e a2
        · exact e a3
        · rw [a4] at e; cases e
        · rw [a5] at e; cases e
      rintro (⟨e, _⟩ | ⟨e, _⟩ | ⟨_, _, a1, a2, a3, a4, a5, _⟩ | ⟨_, _, a1, a2, a3, a4, a5, _⟩)
      · exact absurd e h1
      · exact absurd e h3
      · exact absurd ⟨a1, a2, a3, a4, a5⟩ no
      · exact absurd ⟨a1, a2, a3, a4, a5⟩ no
  rw [if_neg h4]
  rw [not_or, not_or, not_or, not_or, Decidable.not_not, Decidable.not_not, Decidable.not_not, Bool.not_eq_false, Bool.not_eq_false, fromB_iff, fromB_iff] at h4
  obtain ⟨a1, a2, a3, a4, a5⟩ := h4
  simp only [Bool.or_eq_true, Bool.and_eq_true, decide_eq_true_eq, fromB_iff]
  constructor
  · rintro (⟨b1, b2⟩ | ⟨b1, b2⟩)
    · exact .inr (.inr (.inl ⟨b1, h2, a1, a2, a3, a4, a5, b2⟩))
    · exact .inr (.inr (.inr ⟨b1, h2, a1, a2, a3, a4, a5, b2⟩))
  · rintro (⟨e, _⟩ | ⟨e, _⟩ | ⟨b1, _, _, _, _, _, _, b2⟩ | ⟨b1, _, _, _, _, _, _, b2⟩)
    · exact absurd e h1
    · exact absurd e h3
    · exact .inl ⟨b1, b2⟩
    · exact .inr ⟨b1, b2⟩
def forestF : Nat → List Nd → Bool
  | 0, l => decide (l = [])
  | _ + 1, [] => true
  | f + 1, x :: l => decide (1 ≤ x.size) && decide (x.size ≤ (l.length : Int) + 1) && (decide (x.kind = 1) || decide (x.size ≤ 1)) && forestF f (l.take (x.size.toNat - 1)) && forestF f (l.drop (x.size.toNat - 1))
def forestB (l : List Nd) : Bool := forestF l.length l
theorem forestF_ok : ∀ (f : Nat) (l : List Nd), forestF f l = true → Forest l
  | 0, l, h => by simp [forestF] at h; subst h; exact .nil
  | f + 1, [], _ => .nil
  | f + 1, x :: l, h => by
    simp only [forestF, Bool.and_eq_true, Bool.or_eq_true, decide_eq_true_eq] at h
    obtain ⟨⟨⟨⟨h1, h2⟩, h3⟩, h4⟩, h5⟩ := h
    have e : l = l.take (x.size.toNat - 1) ++ l.drop (x.size.toNat - 1) := (List.take_append_drop _ _).symm
    rw [e]
    refine .cons ?_ (fun hk => ?_) (forestF_ok f _ h4) (forestF_ok f _ h5)
    · rw [List.length_take]; omega
    · rcases h3 with h3 | h3
      · exact absurd h3 hk
      · have : x.size.toNat - 1 = 0 := by omega
        rw [this]; rfl
theorem forestF_of {l : List Nd} (h : Forest l) : ∀ f, l.length ≤ f → forestF f l = true := by
  induction h with
  | nil => intro f _; cases f <;> simp [forestF]
  | @cons x inner rest h1 h2 h3 h4 ih1 ih2 =>
    intro f hf
    cases f with
    | zero => simp at hf
    | succ f =>
      simp only [List.length_cons, List.length_append] at hf
      have e : x.size.toNat - 1 = inner.length := by omega
      simp only [forestF, Bool.and_eq_true, Bool.or_eq_true, decide_eq_true_eq, e, List.take_left', List.drop_left', List.length_append]
      refine ⟨⟨⟨⟨by omega, by omega⟩, ?_⟩, ih1 f (by omega)⟩, ih2 f (by omega)⟩
      by_cases hk : x.kind = 1
      · exact .inl hk
      · have := h2 hk; subst this; exact .inr (by simp at h1; omega)
theorem forestB_iff (l : List Nd) : forestB l = true ↔ Forest l := ⟨forestF_ok _ _, fun h => forestF_of h _ (Nat.le_refl _)⟩
theorem forestF_eq {l : List Nd} {f : Nat} (h : l.length ≤ f) : forestF f l = forestB l := by
  rcases hb : forestB l with _ | _
  · rcases hf : forestF f l with _ | _
    · rfl
    · have := (forestB_iff l).2 (forestF_ok _ _ hf)
      rw [hb] at this; cases this
  · exact forestF_of ((forestB_iff l).1 hb) _ h
theorem forestB_cons (x : Nd) (l : List Nd) : forestB (x :: l) = (decide (1 ≤ x.size) && decide (x.size ≤ (l.length : Int) + 1) && (decide (x.kind = 1) || decide (x.size ≤ 1)) && forestB (l.take (x.size.toNat - 1)) && forestB (l.drop (x.size.toNat - 1))) := by
  show forestF (l.length + 1) (x :: l) = _
  rw [forestF, forestF_eq (by rw [List.length_take]; omega), forestF_eq (by rw [List.length_drop]; omega)]
def docB (l : List Nd) : Bool := l.all oneB && forestB l
def IsDoc (l : List Nd) : Prop := (∀ x ∈ l, x.fits) ∧ Forest l
theorem docB_iff (l : List Nd) : docB l = true ↔ IsDoc l := by
  unfold docB IsDoc
  rw [Bool.and_eq_true, List.all_eq_true, forestB_iff]
  simp only [oneB_iff]
def NestAt (l : List Nd) (i : Nat) : Prop := ∀ x, l[i]? = some x → 1 ≤ x.size ∧ (i : Int) + x.size ≤ l.length ∧ (x.kind ≠ 1 → x.size = 1) ∧
  ∀ (k : Nat) (y : Nd), k < i → l[k]? = some y → y.kind = 1 → (i : Int) < k + y.size → (i : Int) + x.size ≤ k + y.size
def Nested (l : List Nd) : Prop := ∀ i, NestAt l i
theorem get_parts {x y : Nd} {inner rest : List Nd} {i : Nat} (h : (x :: (inner ++ rest))[i]? = some y) :
    (i = 0 ∧ y = x) ∨ (∃ j, i = j + 1 ∧ j < inner.length ∧ inner[j]? = some y) ∨ (∃ j, i = inner.length + j + 1 ∧ rest[j]? = some y) := by
  cases i with
  | zero => simp at h; exact .inl ⟨rfl, h.symm⟩
  | succ i =>
    rw [List.getElem?_cons_succ] at h
    rcases Nat.lt_or_ge i inner.length with hi | hi
    · rw [List.getElem?_append_left hi] at h
      exact .inr (.inl ⟨i, rfl, hi, h⟩)
    · rw [List.getElem?_append_right hi] at h
      exact .inr (.inr ⟨i - inner.length, by omega, h⟩)
theorem Forest.nested {l : List Nd} (h : Forest l) : Nested l := by
  induction h with
  | nil => intro i x hx; simp at hx
  | @cons x inner rest h1 h2 h3 h4 ih1 ih2 =>
    intro i z hz
    have hlen : ((x :: (inner ++ rest)).length : Int) = 1 + inner.length + rest.length := by simp; omega
    rw [hlen]
    rcases get_parts hz with ⟨rfl, rfl⟩ | ⟨j, rfl, hj, hj2⟩ | ⟨j, rfl, hj2⟩
    · refine ⟨by omega, by omega, fun hk => ?_, fun k y hk => by omega⟩
      have := h2 hk; subst this; simp at h1; exact h1
    · obtain ⟨a1, a2, a3, a4⟩ := ih1 j z hj2
      refine ⟨a1, by omega, a3, fun k y hk hy hyk hlt => ?_⟩
      rcases get_parts hy with ⟨rfl, rfl⟩ | ⟨m, rfl, hm, hm2⟩ | ⟨m, rfl, hm2⟩
      · rw [h1]; omega
      · have := a4 m y (by omega) hm2 hyk (by omega)
        omega
      · omega
    · obtain ⟨a1, a2, a3, a4⟩ := ih2 j z hj2
      refine ⟨a1, by omega, a3, fun k y hk hy hyk hlt => ?_⟩
      rcases get_parts hy with ⟨rfl, rfl⟩ | ⟨m, rfl, hm, hm2⟩ | ⟨m, rfl, hm2⟩
      · rw [h1] at hlt; omega
      · obtain ⟨_, b2, _⟩ := ih1 m y hm2
        omega
      · have := a4 m y (by omega) hm2 hyk (by omega)
        omega
def endOf (l : List Nd) (i : Nat) : List Int := match l[i]? with
  | some x => if x.kind = 1 then [(i : Int) + x.size] else []
  | none => []
def AE (l : List Nd) : Nat → List Int
  | 0 => []
  | i + 1 => AE l i ++ endOf l i
def opnV (l : List Nd) (i : Nat) (z : Int) : List Int := (AE l i).filter (fun e => decide (z < e))
theorem opnV_zero (l : List Nd) (z : Int) : opnV l 0 z = [] := rfl
theorem opnV_succ (l : List Nd) (i : Nat) (z : Int) : opnV l (i + 1) z = opnV l i z ++ (endOf l i).filter (fun e => decide (z < e)) := by unfold opnV; rw [AE, List.filter_append]
def NestTo (l : List Nd) (i : Nat) : Prop := ∀ j, j < i → NestAt l j
theorem NestTo.zero (l : List Nd) : NestTo l 0 := fun j hj => by omega
theorem NestTo.succ {l : List Nd} {i : Nat} (h : NestTo l i) (k : NestAt l i) : NestTo l (i + 1) := fun j hj => by
  rcases Nat.lt_or_ge j i with hji | hji
  · exact h j hji
  · obtain rfl : j = i := by omega
    exact k
theorem NestTo.all {l : List Nd} {i : Nat} (h : NestTo l i) (hi : l.length ≤ i) : Nested l := fun j => by
  rcases Nat.lt_or_ge j i with hji | hji
  · exact h j hji
  · intro x hx
    rw [List.getElem?_eq_none (by omega)] at hx
    cases hx
structure Sm where
  depth : Int
  pieces : Int
  nodes : Int
  heights : Int
  deriving DecidableEq
def Sm.none : Sm := ⟨0, 0, 0, 0⟩
def piecesN (x : Nd) : Int := if x.kind = 1 then 0 else if x.kind = 2 then (x.words.length : Int) else 1
def highN (x : Nd) : Int := if x.kind = 1 then x.sty.top + x.sty.bottom + x.sty.padTop + x.sty.padBottom + x.sty.head else if x.kind = 2 then x.line * (x.words.length : Int) else x.h
def cutN : Int := 1099511627777
def cut (z : Int) : Int := min z cutN
def depN (l : List Nd) (i : Nat) : Nat := (opnV l (i + 1) i).length
def depTo (l : List Nd) : Nat → Int
  | 0 => 0
  | i + 1 => match l[i]? with
    | some x => if x.kind = 1 then max (depTo l i) (depN l i) else depTo l i
    | none => depTo l i
def sumI (f : Nd → Int) (l : List Nd) : Int := (l.map f).sum
theorem sumI_nil (f : Nd → Int) : sumI f [] = 0 := rfl
theorem sumI_append (f : Nd → Int) (a b : List Nd) : sumI f (a ++ b) = sumI f a + sumI f b := by unfold sumI; rw [List.map_append, List.sum_append]
theorem sumI_cons (f : Nd → Int) (x : Nd) (b : List Nd) : sumI f (x :: b) = f x + sumI f b := by unfold sumI; rw [List.map_cons, List.sum_cons]
theorem sumI_pos {f : Nd → Int} : ∀ {l : List Nd}, (∀ x ∈ l, 0 ≤ f x) → 0 ≤ sumI f l
  | [], _ => by simp [sumI]
  | x :: l, h => by
    rw [sumI_cons]
    have := h x (by simp)
    have := sumI_pos (l := l) (fun y hy => h y (by simp [hy]))
    omega
theorem sumI_take (f : Nd → Int) {l : List Nd} {i : Nat} {x : Nd} (h : l[i]? = some x) : sumI f (l.take (i + 1)) = sumI f (l.take i) + f x := by
  rw [List.take_add_one, h, sumI_append]
  simp [sumI]
theorem cut_step {a b : Int} (hb : 0 ≤ b) : cut (a + b) = min (cut a + b) cutN := by unfold cut cutN; omega
theorem cut_le (z : Int) : cut z ≤ cutN := by unfold cut; omega
theorem cut_pos {z : Int} (h : 0 ≤ z) : 0 ≤ cut z := by unfold cut cutN; omega
theorem high_pos {x : Nd} (h : x.fits) : 0 ≤ highN x := by
  unfold highN
  rcases h with ⟨hk, hs, _⟩ | ⟨hk, _, hl, _⟩ | ⟨hk, _, _, _, _, _, hh, _⟩ | ⟨hk, _, _, _, _, _, hh, _⟩
  · rw [if_pos hk]
    obtain ⟨⟨h1, h2, h3, h4, _⟩, _, h5, _⟩ := hs
    unfold okN at *
    omega
  · rw [if_neg (by omega), if_pos hk]
    have := hl.1
    exact Int.mul_nonneg (by omega) (by omega)
  · rw [if_neg (by omega), if_neg (by omega)]; have := hh.1; omega
  · rw [if_neg (by omega), if_neg (by omega)]; have := hh.1; omega
theorem pieces_pos (x : Nd) : 0 ≤ piecesN x := by
  unfold piecesN
  split
  · omega
  · split <;> omega
def wr (z : Int) : Int := IntKind.i64.wrap z
theorem wr_in {a : Int} (h1 : -9223372036854775808 ≤ a) (h2 : a ≤ 9223372036854775807) : wr a = a := by unfold wr; rw [IntKind.wrap_i64]; omega
def sumTo (l : List Nd) (n : Nat) : Sm := ⟨depTo l n, wr (sumI piecesN (l.take n)), n, cut (sumI highN (l.take n))⟩
def sumB (l : List Nd) : Sm := sumTo l l.length
theorem sumB_eq (l : List Nd) : sumB l = ⟨depTo l l.length, wr (sumI piecesN l), l.length, cut (sumI highN l)⟩ := by unfold sumB sumTo; rw [List.take_length]
theorem depTo_succ {l : List Nd} {i : Nat} {x : Nd} (h : l[i]? = some x) : depTo l (i + 1) = if x.kind = 1 then max (depTo l i) (depN l i) else depTo l i := by rw [depTo, h]
theorem depTo_pos (l : List Nd) : ∀ i, 0 ≤ depTo l i
  | 0 => by simp [depTo]
  | i + 1 => by
    have := depTo_pos l i
    rcases h : l[i]? with _ | x
    · rw [depTo, h]; exact this
    · rw [depTo_succ h]; split <;> omega
theorem depN_le (l : List Nd) (i : Nat) : depN l i ≤ i + 1 := by
  have hAE : ∀ i, (AE l i).length ≤ i := by
    intro i
    induction i with
    | zero => simp [AE]
    | succ i ih =>
      rw [AE, List.length_append]
      have : (endOf l i).length ≤ 1 := by
        unfold endOf
        split
        · split <;> simp
        · simp
      omega
  unfold depN opnV
  have := List.length_filter_le (fun e => decide ((i : Int) < e)) (AE l (i + 1))
  have := hAE (i + 1)
  omega
theorem depTo_le (l : List Nd) : ∀ i : Nat, depTo l i ≤ (i : Int)
  | 0 => by simp [depTo]
  | i + 1 => by
    have := depTo_le l i
    rcases h : l[i]? with _ | x
    · rw [depTo, h]; simp only; omega
    · rw [depTo_succ h]
      have := depN_le l i
      split <;> omega
theorem IsDoc.append {a b : List Nd} (ha : IsDoc a) (hb : IsDoc b) : IsDoc (a ++ b) := ⟨fun x hx => by
  rcases List.mem_append.1 hx with h | h
  · exact ha.1 x h
  · exact hb.1 x h, ha.2.append hb.2⟩
theorem Forest.at_ {l : List Nd} (h : Forest l) : ∀ (i : Nat) (x : Nd), l[i]? = some x → ∃ pre inner rest, l = pre ++ (x :: (inner ++ rest)) ∧ pre.length = i ∧ x.size = 1 + (inner.length : Int) ∧ (x.kind ≠ 1 → inner = []) ∧ Forest inner := by
  induction h with
  | nil => intro i x hx; simp at hx
  | @cons x inner rest h1 h2 h3 h4 ih1 ih2 =>
    intro i z hz
    rcases get_parts hz with ⟨rfl, rfl⟩ | ⟨j, rfl, hj, hj2⟩ | ⟨j, rfl, hj2⟩
    · exact ⟨[], inner, rest, rfl, rfl, h1, h2, h3⟩
    · obtain ⟨p, n, r, e, hp, hs, hk, hf⟩ := ih1 j z hj2
      refine ⟨x :: p, n, r ++ rest, ?_, by simp [hp], hs, hk, hf⟩
      rw [e]; simp
    · obtain ⟨p, n, r, e, hp, hs, hk, hf⟩ := ih2 j z hj2
      refine ⟨x :: (inner ++ p), n, r, ?_, by simp [hp], hs, hk, hf⟩
      rw [e]; simp
theorem IsDoc.at_ {l : List Nd} (h : IsDoc l) {i : Nat} {x : Nd} (hx : l[i]? = some x) : ∃ pre inner rest, l = pre ++ (x :: (inner ++ rest)) ∧ pre.length = i ∧ x.size = 1 + (inner.length : Int) ∧ IsDoc inner ∧ IsDoc (x :: inner) := by
  obtain ⟨p, n, r, e, hp, hs, hk, hf⟩ := h.2.at_ i x hx
  have hin : ∀ y ∈ n, y.fits := fun y hy => h.1 y (by rw [e]; simp [hy])
  have hxf : x.fits := h.1 x (List.mem_of_getElem? hx)
  have hf2 := Forest.cons hs hk hf .nil
  rw [List.append_nil] at hf2
  exact ⟨p, n, r, e, hp, hs, ⟨hin, hf⟩, ⟨fun y hy => by
    rcases List.mem_cons.1 hy with rfl | hy
    · exact hxf
    · exact hin y hy, hf2⟩⟩
end Go.Proofs.Ytipmdhfinlkceaa
namespace Go.Proofs.Ytipmdhfinlkceaa
open Go.ChangeShapes Go.WideShapes Go.ChangeAt Go.RowKit
section
variable {P : Program} (w : World)
theorem run_append_cells_at (base : Nat) (t ty e : TypeId) (i : TypeInfo) (z : Value) (size bytes : Nat) (ht : P.underlying t = some (.slice e)) (hi : P.info? e = some i) (hz : i.zero = some z)
    (hsize : i.size = size) (hby : i.bytes = bytes) (hzs : z.cells.size = size) (hsz : 0 < size)
    (v : Value) (n : Nat) (xs : List Value) (hown : w.ownsRow base e size v n xs) (A : Option Addr) (m c : Nat) (news : List Value) (hm : 0 < m) (hc : Cells w A m size news) (h1 : ∀ u ∈ news, u.oneCell' = true)
    (h63 : n + m ≤ maxLen) (hbytes : (n + m) * bytes ≤ 140737488355328) (hbase : base ≤ w.heap.size) :
    ∃ A' c' w', (Builtin.append_ #[t, t] ty #[v, .slice A m c]).run P w = .ok (.slice A' (n + m) c') w' ∧ w'.ownsRow base e size (.slice A' (n + m) c') (n + m) (xs ++ news) ∧ w.grownBy w' v.ownBlock ∧
      ((Value.slice A' (n + m) c').ownBlock = v.ownBlock ∨ (Value.slice A' (n + m) c').ownBlock = some w.heap.size) := by
  obtain ⟨b, off, rfl, _, hcell⟩ := hc.2.2 hm
  obtain ⟨v', w', hr, h2, h3, _, h5⟩ := run_append_own_at (P := P) w base t ty e i z size bytes ht hi hz hsize hby hzs hsz v n xs hown ⟨b, off, none⟩ m c news hc.1 (fun j u hu => by rw [add_plain]; exact hcell j u hu) h1 h63 hbytes hbase
  obtain ⟨A', c', rfl⟩ := ownsRow_form h2
  exact ⟨A', c', w', hr, h2, h3, h5⟩
end
theorem wpList_append_cells_at {P : Program} {w : World} {ops : Array Oper} {rest : List Oper} {o : Oper} {a : Act} {Q : Exit → Act → World → Prop} (hgd : o.guard = none) (s x : Operand) (t : TypeId)
    (ho : o.op = .call { callee := .builtin .append, args := #[s, x], argTypes := #[t, t] })
    (base : Nat) (e : TypeId) (i : TypeInfo) (z : Value) (size bytes : Nat) (ht : P.underlying t = some (.slice e)) (hi : P.info? e = some i) (hz : i.zero = some z)
    (hsize : i.size = size) (hby : i.bytes = bytes) (hzs : z.cells.size = size) (hsz : 0 < size)
    (v : Value) (n : Nat) (xs : List Value) (hs : a.eval s = v) (hown : w.ownsRow base e size v n xs)
    (A : Option Addr) (m c : Nat) (news : List Value) (hm : 0 < m) (hx : a.eval x = .slice A m c) (hc : Cells w A m size news) (h1 : ∀ u ∈ news, u.oneCell' = true)
    (h63 : n + m ≤ maxLen) (hbytes : (n + m) * bytes ≤ 140737488355328) (hbase : base ≤ w.heap.size)
    (h : ∀ A' c' w', w'.ownsRow base e size (.slice A' (n + m) c') (n + m) (xs ++ news) → w.grownBy w' v.ownBlock → ((Value.slice A' (n + m) c').ownBlock = v.ownBlock ∨ (Value.slice A' (n + m) c').ownBlock = some w.heap.size) → wpList P ops Q rest (a.put o.dst (.slice A' (n + m) c')) w') : wpList P ops Q (o :: rest) a w := by
  obtain ⟨A', c', w', hr, h2, h3, h4⟩ := run_append_cells_at (P := P) w base t o.type e i z size bytes ht hi hz hsize hby hzs hsz v n xs hown A m c news hm hc h1 h63 hbytes hbase
  refine wpList_plain hgd fun _ hK => ?_
  unfold Oper.wp execOp
  simp only [ho, resolve, invoke, builtin, Sem.run_bind, Sem.run_pure, Result.andThen_ok, List.map_toArray, List.map_cons, List.map_nil, hs, hx, hr]
  exact hK _ _ (h A' c' w' h2 h3 h4)
def Apart (A : Option Addr) (n c : Nat) (B : Option Addr) (m d : Nat) : Prop := ∀ r, (Value.slice A n c).ownBlock = some r → (Value.slice B m d).ownBlock ≠ some r
theorem Apart.symm {A B : Option Addr} {n c m d : Nat} (h : Apart A n c B m d) : Apart B m d A n c := fun r h1 h2 => h r h2 h1
theorem Apart.left {w : World} {A B A' : Option Addr} {n c m d n' c' : Nat} {base size q : Nat} {e : TypeId} {xs : List Value} (h : Apart A n c B m d) (hB : w.ownsRow base e size (.slice B m d) q xs)
    (h5 : (Value.slice A' n' c').ownBlock = (Value.slice A n c).ownBlock ∨ (Value.slice A' n' c').ownBlock = some w.heap.size) : Apart A' n' c' B m d := by
  intro r h1 h2
  rcases h5 with h5 | h5
  · rw [h5] at h1; exact h r h1 h2
  · rw [h5] at h1
    injection h1 with h1
    have := owns_block_lt hB r h2
    omega
theorem Apart.nil {B : Option Addr} {m d : Nat} : Apart none 0 0 B m d := fun r h => by cases h
theorem owns_other {w w' : World} {A B : Option Addr} {n c m d : Nat} {base size q : Nat} {e : TypeId} {xs : List Value} (h : Apart A n c B m d) (hB : w.ownsRow base e size (.slice B m d) q xs) (hg : w.grownBy w' (Value.slice A n c).ownBlock) :
    w'.ownsRow base e size (.slice B m d) q xs := by
  refine ⟨hB.1, ?_⟩
  rcases hB.2 with h2 | ⟨g, cap, cur, h1, h2, h3, h4⟩
  · exact .inl h2
  · have hgb : (Value.slice B m d).ownBlock = some g := by rw [h1]; rfl
    exact .inr ⟨g, cap, cur, h1, h2, (hg.block g (Array.getElem?_eq_some_iff.1 h3).1 (fun e => h.symm g hgb e.symm)).trans h3, h4⟩
end Go.Proofs.Ytipmdhfinlkceaa
namespace Go.Proofs.Ytipmdhfinlkceaa
open Go
def holdP (L : List Nd) (a b : Nat) : Bool := match L[a]? with
  | some x => decide (b < L.length) && decide (a ≤ b) && decide ((b : Int) - a < x.size)
  | none => false
def backTo (L : List Nd) (b : Nat) : Nat → List Nat
  | 0 => []
  | i + 1 => if holdP L i b then i :: backTo L b i else backTo L b i
def aboveP (L : List Nd) (b : Nat) : List Nat := if b < L.length then backTo L b b else []
def parentP (L : List Nd) (b : Nat) : Option Nat := (aboveP L b).head?
theorem up_succ (L : List Nd) (b i : Nat) : backTo L b (i + 1) = if holdP L i b then i :: backTo L b i else backTo L b i := rfl
theorem holdP_iff {L : List Nd} {a b : Nat} : holdP L a b = true ↔ ∃ x, L[a]? = some x ∧ b < L.length ∧ a ≤ b ∧ (b : Int) - a < x.size := by
  unfold holdP
  cases h : L[a]? with
  | none => simp
  | some x => simp [and_assoc]
theorem up_mem {L : List Nd} {b : Nat} : ∀ {i j : Nat}, j ∈ backTo L b i ↔ j < i ∧ holdP L j b = true
  | 0, j => by simp [backTo]
  | i + 1, j => by
    unfold backTo
    split
    · rename_i h
      rw [List.mem_cons, up_mem (i := i)]
      constructor
      · rintro (rfl | ⟨h1, h2⟩)
        · exact ⟨by omega, h⟩
        · exact ⟨by omega, h2⟩
      · rintro ⟨h1, h2⟩
        rcases Nat.lt_or_ge j i with h3 | h3
        · exact .inr ⟨h3, h2⟩
        · exact .inl (by omega)
    · rename_i h
      rw [up_mem (i := i)]
      constructor
      · rintro ⟨h1, h2⟩; exact ⟨by omega, h2⟩
      · rintro ⟨h1, h2⟩
        refine ⟨?_, h2⟩
        rcases Nat.lt_or_ge j i with h3 | h3
        · exact h3
        · have : j = i := by omega
          subst this
          exact absurd h2 h
theorem up_len {L : List Nd} {b : Nat} : ∀ (i : Nat), (backTo L b i).length ≤ i
  | 0 => Nat.le_refl _
  | i + 1 => by
    unfold backTo
    have := up_len (L := L) (b := b) i
    split
    · rw [List.length_cons]; omega
    · omega
theorem up_head {L : List Nd} {b : Nat} : ∀ {i p : Nat}, (backTo L b i).head? = some p → p < i ∧ holdP L p b = true ∧ (∀ j, p < j → j < i → holdP L j b = false) ∧ backTo L b i = p :: backTo L b p
  | 0, p, h => by simp [backTo] at h
  | i + 1, p, h => by
    rw [up_succ] at h ⊢
    split at h
    · rename_i h1
      rw [if_pos h1]
      simp at h
      subst h
      exact ⟨by omega, h1, fun j h2 h3 => by omega, rfl⟩
    · rename_i h1
      rw [if_neg h1]
      obtain ⟨h2, h3, h4, h5⟩ := up_head h
      refine ⟨by omega, h3, fun j h6 h7 => ?_, h5⟩
      rcases Nat.lt_or_ge j i with h8 | h8
      · exact h4 j h6 h8
      · have : j = i := by omega
        subst this
        simpa using h1
theorem parent_lt {L : List Nd} {b p : Nat} (h : parentP L b = some p) : p < b ∧ b < L.length ∧ holdP L p b = true := by
  unfold parentP aboveP at h
  split at h
  · rename_i hb
    obtain ⟨h1, h2, _⟩ := up_head h
    exact ⟨h1, hb, h2⟩
  · cases h
def hasI (L : List Nd) (a : Int) : Bool := decide (0 ≤ a) && decide (a < L.length)
def holdsI (L : List Nd) (a b : Int) : Bool := hasI L a && hasI L b && holdP L a.toNat b.toNat
def aboveI (L : List Nd) (a : Int) : List Int := if hasI L a then (aboveP L a.toNat).map (fun i : Nat => (i : Int)) else []
def parentI (L : List Nd) (a : Int) : Int := (aboveI L a).headD (-1)
theorem hasI_iff {L : List Nd} {a : Int} : hasI L a = true ↔ 0 ≤ a ∧ a < L.length := by unfold hasI; simp
theorem parentI_nat {L : List Nd} {b : Nat} (hb : b < L.length) : parentI L (b : Int) = (match parentP L b with | some p => (p : Int) | none => -1) := by
  unfold parentI aboveI parentP
  rw [if_pos (hasI_iff.2 ⟨by omega, by omega⟩), Int.toNat_natCast]
  cases aboveP L b <;> rfl
def maxX : Int := 1099511627776
def roomF (L : List Nd) (w : Int) : Nat → Nat → Int × Int
  | 0, _ => (0, w)
  | f + 1, b => match parentP L b with
    | none => (0, w)
    | some p => (min ((roomF L w f p).1 + ((L[p]?).map (·.sty.inset)).getD 0) maxX, max ((roomF L w f p).2 - ((L[p]?).map (·.sty.inset)).getD 0 - ((L[p]?).map (·.sty.inset)).getD 0) 1)
def roomP (L : List Nd) (w : Int) (b : Nat) : Int × Int := roomF L w (b + 1) b
theorem roomF_eq {L : List Nd} {w : Int} : ∀ (f g b : Nat), b < f → b < g → roomF L w f b = roomF L w g b
  | 0, _, _, h, _ => by omega
  | _, 0, _, _, h => by omega
  | f + 1, g + 1, b, h1, h2 => by
    unfold roomF
    cases h : parentP L b with
    | none => rfl
    | some p =>
      have := (parent_lt h).1
      simp only
      rw [roomF_eq f g p (by omega) (by omega)]
theorem room_top {L : List Nd} {w : Int} {b : Nat} (h : parentP L b = none) : roomP L w b = (0, w) := by
  unfold roomP roomF
  rw [h]
theorem room_some {L : List Nd} {w : Int} {b p : Nat} (h : parentP L b = some p) : roomP L w b = (min ((roomP L w p).1 + ((L[p]?).map (·.sty.inset)).getD 0) maxX, max ((roomP L w p).2 - ((L[p]?).map (·.sty.inset)).getD 0 - ((L[p]?).map (·.sty.inset)).getD 0) 1) := by
  have hl := (parent_lt h).1
  conv => lhs; unfold roomP roomF
  rw [h]
  simp only
  rw [roomF_eq b (p + 1) p hl (by omega)]
  rfl
theorem room_bd {L : List Nd} (hf : ∀ y ∈ L, y.fits) {w : Int} (h1 : 1 ≤ w) (h2 : w ≤ maxX) : ∀ (b : Nat), 0 ≤ (roomP L w b).1 ∧ (roomP L w b).1 ≤ maxX ∧ 1 ≤ (roomP L w b).2 ∧ (roomP L w b).2 ≤ w := by
  intro b
  induction b using Nat.strongRecOn with
  | _ b ih =>
    cases h : parentP L b with
    | none =>
      rw [room_top h]
      simp only
      unfold maxX at *
      omega
    | some p =>
      have hl := (parent_lt h).1
      obtain ⟨a1, a2, a3, a4⟩ := ih p hl
      have hi : 0 ≤ ((L[p]?).map (·.sty.inset)).getD 0 := by
        cases hq : L[p]? with
        | none => exact Int.le_refl _
        | some y =>
          have hy := hf y (List.mem_of_getElem? hq)
          show 0 ≤ y.sty.inset
          rcases hy with ⟨_, hs, _⟩ | ⟨_, hs, _⟩ | ⟨_, hs, _⟩ | ⟨_, hs, _⟩
          · exact hs.1.2.2.2.2.1.1
          · rw [hs]; decide
          · rw [hs]; decide
          · rw [hs]; decide
      rw [room_some h]
      simp only
      unfold maxX at *
      omega
def insetAt (L : List Nd) (p : Nat) : Int := ((L[p]?).map (·.sty.inset)).getD 0
theorem inset_bd {L : List Nd} (hf : ∀ y ∈ L, y.fits) (p : Nat) : 0 ≤ insetAt L p ∧ insetAt L p ≤ maxX := by
  unfold insetAt maxX
  cases hq : L[p]? with
  | none => show (0 : Int) ≤ 0 ∧ (0 : Int) ≤ _; omega
  | some y =>
    have hy := hf y (List.mem_of_getElem? hq)
    show 0 ≤ y.sty.inset ∧ y.sty.inset ≤ _
    rcases hy with ⟨_, hs, _⟩ | ⟨_, hs, _⟩ | ⟨_, hs, _⟩ | ⟨_, hs, _⟩
    · exact hs.1.2.2.2.2.1
    · rw [hs]; decide
    · rw [hs]; decide
    · rw [hs]; decide
theorem room_step {L : List Nd} {w : Int} {b p : Nat} (h : parentP L b = some p) : roomP L w b = (min ((roomP L w p).1 + insetAt L p) maxX, max ((roomP L w p).2 - insetAt L p - insetAt L p) 1) := room_some h
theorem aboveI_nat {L : List Nd} {b : Nat} (hb : b < L.length) : aboveI L (b : Int) = (aboveP L b).map fun i : Nat => (i : Int) := by
  unfold aboveI
  rw [if_pos (hasI_iff.2 ⟨by omega, by omega⟩), Int.toNat_natCast]
def ansV (l : List Nd) : Sm × Int := if docB l then (sumB l, 0) else (.none, 4)
def overB (s : Sm) : Bool := decide (16 < s.depth) || decide (2000 < s.pieces) || decide (2000 < s.nodes) || decide (1099511627776 < s.heights)
def chkV (l : List Nd) : Int := if docB l then (if overB (sumB l) then 2 else 0) else 4
theorem ansV_err {l : List Nd} {s : Sm} {f : Int} (h : ansV l = (s, f)) : (f = 0 ∧ docB l = true ∧ s = sumB l) ∨ (f = 4 ∧ docB l = false ∧ s = .none) := by
  unfold ansV at h
  rcases hd : docB l with _ | _
  · rw [hd] at h; simp at h; exact .inr ⟨h.2.symm, rfl, h.1.symm⟩
  · rw [hd] at h; simp at h; exact .inl ⟨h.2.symm, rfl, h.1.symm⟩
theorem endOf_at {l : List Nd} {k : Nat} {x : Nd} (hx : l[k]? = some x) : endOf l k = if x.kind = 1 then [(k : Int) + x.size] else [] := by unfold endOf; rw [hx]
theorem pieces_take (l : List Nd) (hw : ∀ x ∈ l, x.words.length ≤ 100000) : ∀ k : Nat, sumI piecesN (l.take k) ≤ 100000 * k
  | 0 => by simp [sumI]
  | k + 1 => by
    have ih := pieces_take l hw k
    rcases hx : l[k]? with _ | x
    · rw [List.take_add_one, hx]
      simp only [Option.toList_none, List.append_nil]
      omega
    · rw [sumI_take piecesN hx]
      have : piecesN x ≤ 100000 := by
        have := hw x (List.mem_of_getElem? hx)
        unfold piecesN
        split
        · omega
        · split <;> omega
      omega
structure Am where
  kind : Int
  node : Int
  from_ : Int
  to_ : Int
  x : Int
  y : Int
  w : Int
  h : Int
deriving DecidableEq
def encAm (x : Am) : List Value := [.int .i64 x.kind, .int .i64 x.node, .int .i64 x.from_, .int .i64 x.to_, .int .i64 x.x, .int .i64 x.y, .int .i64 x.w, .int .i64 x.h]
theorem encAm_len (x : Am) : (encAm x).length = 8 := rfl
theorem encAm_one (x : Am) : ∀ u ∈ encAm x, u.oneCell' = true := by
  intro u hu
  simp [encAm] at hu
  rcases hu with rfl | rfl | rfl | rfl | rfl | rfl | rfl | rfl <;> rfl
structure Gs where
  ams : List Am
  fls : List Fl
  pen : Int × Int
def Gs.start : Gs := ⟨[], [], (0, 0)⟩
def Gs.place (s : Gs) : Int := s.pen.1 + s.pen.2
def lineAm (i : Nat) (h : Int) (x : Ln) : Am := ⟨1, (i : Int), x.from_, x.to_, x.x, x.y, x.w, h⟩
def penLns (h : Int) (p : Int × Int) (ls : List Ln) : Int × Int := ls.foldl (fun _ x => (x.y + h, 0)) p
def textS (rm : Int × Int) (i : Nat) (x : Nd) (s : Gs) : Gs :=
  { s with ams := s.ams ++ (lnsL s.fls x.words x.space x.line rm.1 (rm.1 + rm.2) 0 s.place).map (lineAm i x.line), pen := penLns x.line s.pen (lnsL s.fls x.words x.space x.line rm.1 (rm.1 + rm.2) 0 s.place) }
def boxY (rm : Int × Int) (x : Nd) (s : Gs) : Int := seekE s.fls x.h x.w rm.1 (rm.1 + rm.2) s.place
def boxS (rm : Int × Int) (i : Nat) (x : Nd) (s : Gs) : Gs :=
  { s with ams := s.ams ++ [⟨2, (i : Int), 0, 0, (bandL s.fls (boxY rm x s) x.h (rm.1, rm.1 + rm.2)).1, boxY rm x s, x.w, x.h⟩], pen := (boxY rm x s + x.h, 0) }
def floatS (rm : Int × Int) (i : Nat) (x : Nd) (s : Gs) : Gs :=
  { s with fls := putL s.fls ⟨(i : Int), x.side, (s.ams.length : Int), 0, 0, x.w, x.h⟩ s.place rm.1 (rm.1 + rm.2) }
def leafS (rm : Int × Int) (i : Nat) (x : Nd) (s : Gs) : Gs :=
  if x.kind = 2 then textS rm i x s else if x.kind = 3 then boxS rm i x s else if x.kind = 4 then floatS rm i x s else s
def clearS (l : List Fl) (sides : Int) (p : Int × Int) : Int × Int := if (lowestL l sides).2 then clearP p (lowestL l sides).1 else p
def beginS (x : Nd) (s : Gs) : Gs := { s with pen := enterP (clearS s.fls x.sty.clear s.pen) x.sty.top x.sty.padTop }
def endS (x : Nd) (s : Gs) : Gs := { s with pen := leaveP s.pen x.sty.bottom x.sty.padBottom }
inductive Ev where
  | begin_ (i : Nat)
  | end_ (i : Nat)
  | leaf (i : Nat)
def nxt (i : Nat) (x : Nd) : Nat := i + max x.size.toNat 1
def evF (L : List Nd) : Nat → Nat → Nat → List Ev
  | 0, _, _ => []
  | f + 1, i, e => if i < e then match L[i]? with
      | none => []
      | some x => (if x.kind = 1 then .begin_ i :: (evF L f (i + 1) (min (nxt i x) e) ++ [.end_ i]) else [.leaf i]) ++ evF L f (nxt i x) e
    else []
def evN (L : List Nd) (i e : Nat) : List Ev := evF L (e - i) i e
theorem nxt_lt (i : Nat) (x : Nd) : i < nxt i x := by unfold nxt; omega
theorem evF_eq {L : List Nd} : ∀ (f g i e : Nat), e ≤ i + f → e ≤ i + g → evF L f i e = evF L g i e
  | 0, 0, i, e, _, _ => rfl
  | 0, g + 1, i, e, hf, _ => by unfold evF; rw [if_neg (by omega)]
  | f + 1, 0, i, e, _, hg => by unfold evF; rw [if_neg (by omega)]
  | f + 1, g + 1, i, e, hf, hg => by
    unfold evF
    by_cases hi : i < e
    · rw [if_pos hi, if_pos hi]
      cases L[i]? with
      | none => rfl
      | some x =>
        have := nxt_lt i x
        simp only
        rw [evF_eq f g (i + 1) _ (by omega) (by omega), evF_eq f g (nxt i x) e (by omega) (by omega)]
    · rw [if_neg hi, if_neg hi]
theorem evN_end {L : List Nd} {i e : Nat} (h : e ≤ i) : evN L i e = [] := by
  unfold evN
  rw [show e - i = 0 by omega]
  rfl
def ev1 (L : List Nd) (i : Nat) (x : Nd) : List Ev := if x.kind = 1 then .begin_ i :: (evN L (i + 1) (nxt i x) ++ [.end_ i]) else [.leaf i]
theorem evN_step {L : List Nd} {i e : Nat} {x : Nd} (hi : i < e) (hx : L[i]? = some x) (he : nxt i x ≤ e) : evN L i e = ev1 L i x ++ evN L (nxt i x) e := by
  have hl := nxt_lt i x
  unfold evN ev1
  rw [show e - i = (e - i - 1) + 1 by omega]
  conv => lhs; unfold evF
  rw [if_pos hi, hx]
  simp only
  rw [Nat.min_eq_left he, evF_eq (e - i - 1) (nxt i x - (i + 1)) (i + 1) (nxt i x) (by omega) (by omega), evF_eq (e - i - 1) (e - nxt i x) (nxt i x) e (by omega) (by omega)]
  rfl
theorem nxt_of {L : List Nd} (hn : Nested L) {i : Nat} {x : Nd} (hx : L[i]? = some x) : (nxt i x : Int) = (i : Int) + x.size ∧ nxt i x ≤ L.length := by
  obtain ⟨h1, h2, _⟩ := hn i x hx
  unfold nxt
  omega
theorem nxt_in {L : List Nd} (hn : Nested L) {i k : Nat} {x y : Nd} (hx : L[i]? = some x) (hy : L[k]? = some y) (hk : y.kind = 1) (h1 : k < i) (h2 : i < nxt k y) : nxt i x ≤ nxt k y := by
  obtain ⟨_, _, _, h4⟩ := hn i x hx
  have e1 := (nxt_of hn hx).1
  have e2 := (nxt_of hn hy).1
  have := h4 k y h1 hy hk (by omega)
  omega
theorem nxt_leaf {L : List Nd} (hn : Nested L) {i : Nat} {x : Nd} (hx : L[i]? = some x) (hk : x.kind ≠ 1) : nxt i x = i + 1 := by
  obtain ⟨_, _, h3, _⟩ := hn i x hx
  have e1 := (nxt_of hn hx).1
  have := h3 hk
  omega
def evS (L : List Nd) (w : Int) (s : Gs) : Ev → Gs
  | .begin_ i => match L[i]? with
    | some x => beginS x s
    | none => s
  | .end_ i => match L[i]? with
    | some x => endS x s
    | none => s
  | .leaf i => match L[i]? with
    | some x => leafS (roomP L w i) i x s
    | none => s
theorem evS_begin {L : List Nd} {w : Int} {s : Gs} {i : Nat} {x : Nd} (hx : L[i]? = some x) : evS L w s (.begin_ i) = beginS x s := by
  show (match L[i]? with | some x => beginS x s | none => s) = _
  rw [hx]
theorem evS_end {L : List Nd} {w : Int} {s : Gs} {i : Nat} {x : Nd} (hx : L[i]? = some x) : evS L w s (.end_ i) = endS x s := by
  show (match L[i]? with | some x => endS x s | none => s) = _
  rw [hx]
theorem evS_leaf {L : List Nd} {w : Int} {s : Gs} {i : Nat} {x : Nd} (hx : L[i]? = some x) : evS L w s (.leaf i) = leafS (roomP L w i) i x s := by
  show (match L[i]? with | some x => leafS (roomP L w i) i x s | none => s) = _
  rw [hx]
def runS (L : List Nd) (w : Int) (s : Gs) (es : List Ev) : Gs := es.foldl (evS L w) s
theorem runS_append (L : List Nd) (w : Int) (s : Gs) (a b : List Ev) : runS L w s (a ++ b) = runS L w (runS L w s a) b := List.foldl_append
def oneS (L : List Nd) (w : Int) (i : Nat) (x : Nd) (s : Gs) : Gs := runS L w s (ev1 L i x)
theorem oneS_block {L : List Nd} {w : Int} {i : Nat} {x : Nd} {s : Gs} (hx : L[i]? = some x) (hk : x.kind = 1) : oneS L w i x s = endS x (runS L w (beginS x s) (evN L (i + 1) (nxt i x))) := by
  unfold oneS ev1
  rw [if_pos hk]
  show runS L w (evS L w s (.begin_ i)) (evN L (i + 1) (nxt i x) ++ [.end_ i]) = _
  rw [runS_append]
  show evS L w (runS L w (evS L w s (.begin_ i)) (evN L (i + 1) (nxt i x))) (.end_ i) = _
  rw [evS_begin hx, evS_end hx]
theorem oneS_leaf {L : List Nd} {w : Int} {i : Nat} {x : Nd} {s : Gs} (hx : L[i]? = some x) (hk : x.kind ≠ 1) : oneS L w i x s = leafS (roomP L w i) i x s := by
  unfold oneS ev1
  rw [if_neg hk]
  show evS L w s (.leaf i) = _
  rw [evS_leaf hx]
theorem runS_step {L : List Nd} {w : Int} {s : Gs} {i e : Nat} {x : Nd} (hi : i < e) (hx : L[i]? = some x) (he : nxt i x ≤ e) : runS L w s (evN L i e) = runS L w (oneS L w i x s) (evN L (nxt i x) e) := by
  rw [evN_step hi hx he, runS_append]
  rfl
theorem runS_end {L : List Nd} {w : Int} {s : Gs} {i e : Nat} (h : e ≤ i) : runS L w s (evN L i e) = s := by
  rw [evN_end h]
  rfl
def galS (L : List Nd) (w : Int) : Gs := runS L w .start (evN L 0 L.length)
def highS (s : Gs) : Int := s.fls.foldl (fun h f => max h (f.y + f.h)) s.place
def anchF (n : Int) (f : Fl) : Fl := if n ≤ f.anchor then { f with anchor := max (n - 1) 0 } else f
def floatsS (s : Gs) : List Fl := s.fls.map (anchF (s.ams.length : Int))
def Am.near (x : Am) : Prop := (-1125899906842624 ≤ x.y ∧ x.y ≤ 1125899906842624) ∧ -1125899906842624 ≤ x.h ∧ x.h ≤ 1125899906842624
def amAt (l : List Am) (k : Int) : Option Am := if 0 ≤ k then l[k.toNat]? else none
theorem amAt_nat (l : List Am) (k : Nat) : amAt l (k : Int) = l[k]? := by unfold amAt; rw [if_pos (by omega), Int.toNat_natCast]
theorem amAt_none {l : List Am} {k : Int} (h : ¬ (0 ≤ k ∧ k < (l.length : Int))) : amAt l k = none := by
  unfold amAt
  split
  · rw [List.getElem?_eq_none_iff]; omega
  · rfl
theorem amAt_some {l : List Am} {k : Int} (h0 : 0 ≤ k) (h1 : k < (l.length : Int)) : ∃ x, amAt l k = some x ∧ l[k.toNat]? = some x := by
  have h : k.toNat < l.length := by omega
  exact ⟨l[k.toNat], by unfold amAt; rw [if_pos h0, List.getElem?_eq_getElem h], List.getElem?_eq_getElem h⟩
def botI (l : List Am) (k : Int) : Int := match amAt l k with
  | some x => x.y + x.h
  | none => 0
def gapI (l : List Am) (k : Int) : Int := match amAt l k with
  | some x => x.y - botI l (k - 1)
  | none => 0
def offI (l : List Am) (i k : Int) : Int := match amAt l i, amAt l k with
  | some x, some y => y.y - x.y
  | _, _ => 0
def highI (l : List Am) (i k : Int) : Int := if k ≤ i then 0 else match amAt l i, amAt l (k - 1) with
  | some x, some _ => botI l (k - 1) - x.y
  | _, _ => 0
theorem bot_bd {l : List Am} (h : ∀ x ∈ l, x.near) (k : Int) : -2251799813685248 ≤ botI l k ∧ botI l k ≤ 2251799813685248 := by
  unfold botI
  cases hx : amAt l k with
  | none => simp
  | some x =>
    unfold amAt at hx
    split at hx
    · have := h x (List.mem_of_getElem? hx)
      unfold Am.near at this
      simp only
      omega
    · cases hx
def CutAt (l : List Am) (x : Int) (i : Nat) : Prop := i ≤ l.length ∧ (∀ (k : Nat) (y : Am), k < i → l[k]? = some y → y.node < x) ∧ ∀ (k : Nat) (y : Am), i ≤ k → l[k]? = some y → x ≤ y.node
def Rising (l : List Am) : Prop := ∀ (i j : Nat) (x y : Am), i ≤ j → l[i]? = some x → l[j]? = some y → x.node ≤ y.node
theorem CutAt.same {l : List Am} {x : Int} {i j : Nat} (h : CutAt l x i) (k : CutAt l x j) : i = j := by
  rcases Nat.lt_trichotomy i j with hlt | he | hlt
  · have hi : i < l.length := Nat.lt_of_lt_of_le hlt k.1
    have h1 := h.2.2 i _ (Nat.le_refl _) (List.getElem?_eq_getElem hi)
    have h2 := k.2.1 i _ hlt (List.getElem?_eq_getElem hi)
    omega
  · exact he
  · have hi : j < l.length := Nat.lt_of_lt_of_le hlt h.1
    have h1 := k.2.2 j _ (Nat.le_refl _) (List.getElem?_eq_getElem hi)
    have h2 := h.2.1 j _ hlt (List.getElem?_eq_getElem hi)
    omega
def cutA (l : List Am) (x : Int) : Nat := (l.takeWhile fun y => decide (y.node < x)).length
theorem cutA_at {l : List Am} (hr : Rising l) (x : Int) : CutAt l x (cutA l x) := by
  unfold cutA
  induction l with
  | nil => exact ⟨Nat.le_refl _, fun k y h => by simp at h, fun k y _ h => by simp at h⟩
  | cons a l ih =>
    have hr2 : Rising l := fun i j x y hij hx hy => hr (i + 1) (j + 1) x y (by omega) (by simpa using hx) (by simpa using hy)
    obtain ⟨i1, i2, i3⟩ := ih hr2
    by_cases ha : a.node < x
    · rw [List.takeWhile_cons_of_pos (by simpa using ha), List.length_cons]
      refine ⟨by simp; omega, fun k y hk hy => ?_, fun k y hk hy => ?_⟩
      · cases k with
        | zero => simp at hy; subst hy; exact ha
        | succ k => exact i2 k y (by omega) (by simpa using hy)
      · cases k with
        | zero => omega
        | succ k => exact i3 k y (by omega) (by simpa using hy)
    · rw [List.takeWhile_cons_of_neg (by simpa using ha)]
      refine ⟨Nat.zero_le _, fun k y hk => by simp at hk, fun k y _ hy => ?_⟩
      have := hr 0 k a y (Nat.zero_le _) rfl hy
      omega
theorem cutA_le (l : List Am) (x : Int) : cutA l x ≤ l.length := (List.takeWhile_sublist _).length_le
def wthI (L : List Nd) (l : List Am) (a : Int) : Int × Int := if 0 ≤ a then match L[a.toNat]? with
    | some x => if cutA l (a + x.size) ≤ cutA l a then (0, 0) else ((cutA l a : Int), (cutA l (a + x.size) : Int))
    | none => (0, 0)
  else (0, 0)
theorem off_neg (l : List Am) (i j : Int) : offI l i j = - offI l j i := by
  unfold offI
  cases amAt l i <;> cases amAt l j <;> simp
  omega
theorem off_bd {l : List Am} (h : ∀ x ∈ l, x.near) (i j : Int) : -2251799813685248 ≤ offI l i j ∧ offI l i j ≤ 2251799813685248 := by
  have hm : ∀ {k : Int} {x : Am}, amAt l k = some x → x.near := fun {k x} hx => by
    unfold amAt at hx
    split at hx
    · exact h x (List.mem_of_getElem? hx)
    · cases hx
  unfold offI
  cases hi : amAt l i with
  | none => cases amAt l j <;> simp
  | some x =>
    cases hj : amAt l j with
    | none => simp
    | some y =>
      have h1 := hm hi
      have h2 := hm hj
      unfold Am.near at h1 h2
      simp only
      omega
theorem off_add {l : List Am} {i j k : Int} (hi : 0 ≤ i ∧ i < (l.length : Int)) (hj : 0 ≤ j ∧ j < (l.length : Int)) (hk : 0 ≤ k ∧ k < (l.length : Int)) : offI l i j + offI l j k = offI l i k := by
  obtain ⟨x, hx, _⟩ := amAt_some hi.1 hi.2
  obtain ⟨y, hy, _⟩ := amAt_some hj.1 hj.2
  obtain ⟨z, hz, _⟩ := amAt_some hk.1 hk.2
  unfold offI
  rw [hx, hy, hz]
  simp only
  omega
def topI (l : List Am) (i : Int) : Int := match amAt l i with
  | some x => x.y
  | none => 0
def partI (l : List Am) (i n : Int) : Int := if i < 0 then botI l (n - 1) else if n ≤ i then 0 else botI l (n - 1) - topI l i
theorem part_bd {l : List Am} (h : ∀ x ∈ l, x.near) (i n : Int) : -4503599627370496 ≤ partI l i n ∧ partI l i n ≤ 4503599627370496 := by
  have h1 := bot_bd h (n - 1)
  have h2 : -2251799813685248 ≤ topI l i ∧ topI l i ≤ 2251799813685248 := by
    unfold topI
    cases hx : amAt l i with
    | none => simp
    | some x =>
      unfold amAt at hx
      split at hx
      · have := h x (List.mem_of_getElem? hx)
        unfold Am.near at this
        simp only
        omega
      · cases hx
  unfold partI
  split
  · omega
  · split
    · simp
    · omega
theorem bot_at {l : List Am} {k : Nat} {x : Am} (hx : l[k]? = some x) : botI l (k : Int) = x.y + x.h := by unfold botI; rw [amAt_nat, hx]
theorem gap_at {l : List Am} {k : Nat} {x : Am} (hx : l[k]? = some x) : gapI l (k : Int) = x.y - botI l ((k : Int) - 1) := by unfold gapI; rw [amAt_nat, hx]
theorem high_at {l : List Am} {i : Int} {k : Nat} {x : Am} (hx : l[k]? = some x) (h0 : 0 ≤ i) (hi : i ≤ (k : Int)) : highI l i ((k : Int) + 1) = x.y + x.h - topI l i := by
  have hl : k < l.length := (List.getElem?_eq_some_iff.1 hx).1
  obtain ⟨y, hy, _⟩ := amAt_some h0 (show i < (l.length : Int) by omega)
  unfold highI topI
  rw [if_neg (by omega), show (k : Int) + 1 - 1 = (k : Int) by omega, bot_at hx, hy, amAt_nat, hx]
theorem low_from {l0 : List Fl} (sides : Int) : ∀ (l : List Fl) (s : Int × Bool), (∀ f ∈ l, f ∈ l0) → (s.2 = true → ∃ f ∈ l0, s.1 = f.y + f.h) → (l.foldl (lowStep sides) s).2 = true → ∃ f ∈ l0, (l.foldl (lowStep sides) s).1 = f.y + f.h
  | [], s, _, hs, h => hs h
  | f :: r, s, hl, hs, h => by
    refine low_from sides r (lowStep sides s f) (fun g hg => hl g (List.mem_cons_of_mem _ hg)) ?_ h
    intro hq
    unfold lowStep at hq ⊢
    split
    · rename_i h1
      rw [if_pos h1] at hq
      exact hs hq
    · split
      · exact ⟨f, hl f (by simp), rfl⟩
      · rename_i h1 h2
        rw [if_neg h1, if_neg h2] at hq
        exact hs hq
theorem lowest_from {l : List Fl} {sides : Int} (h : (lowestL l sides).2 = true) : ∃ f ∈ l, (lowestL l sides).1 = f.y + f.h := low_from sides l (0, false) (fun f hf => hf) (fun h => by cases h) h
theorem topstep_from {l0 : List Fl} : ∀ (r : List Fl) (b : Int), (∀ f ∈ r, f ∈ l0) → (∃ f ∈ l0, b = f.y) → ∃ f ∈ l0, r.foldl topStep b = f.y
  | [], b, _, hb => hb
  | f :: r, b, hl, hb => by
    refine topstep_from r (topStep b f) (fun g hg => hl g (List.mem_cons_of_mem _ hg)) ?_
    unfold topStep
    split
    · exact ⟨f, hl f (by simp), rfl⟩
    · exact hb
theorem top_from : ∀ {l : List Fl}, l ≠ [] → ∃ f ∈ l, topF l = f.y
  | [], h => absurd rfl h
  | f :: r, _ => topstep_from (l0 := f :: r) r f.y (fun g hg => List.mem_cons_of_mem _ hg) ⟨f, by simp, rfl⟩
structure FlOk (H : Int) (f : Fl) : Prop where
  side : f.side = 1 ∨ f.side = 2
  x0 : 0 ≤ f.x
  x1 : f.x + f.w ≤ 2199023255552
  w0 : 1 ≤ f.w
  w1 : f.w ≤ maxN
  h0 : 1 ≤ f.h
  h1 : f.h ≤ maxN
  y0 : 0 ≤ f.y
  y1 : f.y + f.h ≤ H
theorem FlOk.mono {H K : Int} {f : Fl} (h : FlOk H f) (hk : H ≤ K) : FlOk K f := ⟨h.side, h.x0, h.x1, h.w0, h.w1, h.h0, h.h1, h.y0, Int.le_trans h.y1 hk⟩
theorem FlOk.near {H : Int} {f : Fl} (h : FlOk H f) (hH : H ≤ maxN) : f.near := by
  obtain ⟨_, h1, h2, h3, h4, h5, h6, h7, h8⟩ := h
  unfold Fl.near NearI farB maxN at *
  omega
structure GsOk (H : Int) (s : Gs) : Prop where
  p0 : 0 ≤ s.pen.1
  p1 : 0 ≤ s.pen.2
  p2 : s.place ≤ H
  fls : ∀ f ∈ s.fls, FlOk H f
theorem GsOk.start : GsOk 0 .start := ⟨Int.le_refl _, Int.le_refl _, Int.le_refl _, fun f hf => by cases hf⟩
theorem GsOk.mono {H K : Int} {s : Gs} (h : GsOk H s) (hk : H ≤ K) : GsOk K s := ⟨h.p0, h.p1, Int.le_trans h.p2 hk, fun f hf => (h.fls f hf).mono hk⟩
theorem GsOk.ends {H : Int} {s : Gs} (h : GsOk H s) : ∀ f ∈ s.fls, f.y + f.h ≤ H := fun f hf => (h.fls f hf).y1
theorem GsOk.nears {H : Int} {s : Gs} (h : GsOk H s) (hH : H ≤ maxN) : ∀ f ∈ s.fls, f.near := fun f hf => (h.fls f hf).near hH
theorem GsOk.h0 {H : Int} {s : Gs} (h : GsOk H s) : 0 ≤ H := by have := h.p0; have := h.p1; have := h.p2; unfold Gs.place at this; omega
def leafH (x : Nd) : Int := if x.kind = 2 then x.line * (x.words.length : Int) else x.h
def evH (L : List Nd) : Ev → Int
  | .begin_ i => match L[i]? with
    | some x => x.sty.top + x.sty.padTop
    | none => 0
  | .end_ i => match L[i]? with
    | some x => x.sty.bottom + x.sty.padBottom
    | none => 0
  | .leaf i => match L[i]? with
    | some x => leafH x
    | none => 0
theorem evH_begin {L : List Nd} {i : Nat} {x : Nd} (hx : L[i]? = some x) : evH L (.begin_ i) = x.sty.top + x.sty.padTop := by
  show (match L[i]? with | some x => x.sty.top + x.sty.padTop | none => 0) = _
  rw [hx]
theorem evH_end {L : List Nd} {i : Nat} {x : Nd} (hx : L[i]? = some x) : evH L (.end_ i) = x.sty.bottom + x.sty.padBottom := by
  show (match L[i]? with | some x => x.sty.bottom + x.sty.padBottom | none => 0) = _
  rw [hx]
theorem evH_leaf {L : List Nd} {i : Nat} {x : Nd} (hx : L[i]? = some x) : evH L (.leaf i) = leafH x := by
  show (match L[i]? with | some x => leafH x | none => 0) = _
  rw [hx]
theorem sty_pos {x : Nd} (h : x.fits) (hk : x.kind = 1) : 0 ≤ x.sty.top ∧ 0 ≤ x.sty.bottom ∧ 0 ≤ x.sty.padTop ∧ 0 ≤ x.sty.padBottom ∧ 0 ≤ x.sty.head := by
  rcases h with ⟨_, hs, _⟩ | ⟨h, _⟩ | ⟨h, _⟩ | ⟨h, _⟩
  · obtain ⟨⟨h1, h2, h3, h4, _⟩, _, h5, _⟩ := hs
    unfold okN at *
    omega
  · omega
  · omega
  · omega
theorem sty_all_pos {x : Nd} (h : x.fits) : 0 ≤ x.sty.top ∧ 0 ≤ x.sty.bottom ∧ 0 ≤ x.sty.padTop ∧ 0 ≤ x.sty.padBottom := by
  by_cases hk : x.kind = 1
  · have := sty_pos h hk; omega
  · rcases h with ⟨h, _⟩ | ⟨_, hs, _⟩ | ⟨_, hs, _⟩ | ⟨_, hs, _⟩
    · exact absurd h hk
    all_goals
      rw [hs]; unfold Sty.none; simp
theorem clearS_ok {H : Int} {s : Gs} (h : GsOk H s) (sides : Int) : 0 ≤ (clearS s.fls sides s.pen).1 ∧ 0 ≤ (clearS s.fls sides s.pen).2 ∧ (clearS s.fls sides s.pen).1 + (clearS s.fls sides s.pen).2 ≤ H ∧ s.place ≤ (clearS s.fls sides s.pen).1 + (clearS s.fls sides s.pen).2 := by
  have h0 := h.p0
  have h1 := h.p1
  have h2 := h.p2
  unfold Gs.place at *
  unfold clearS
  split
  · rename_i hl
    obtain ⟨f, hf, he⟩ := lowest_from hl
    have := h.ends f hf
    unfold clearP
    split
    · simp only
      omega
    · exact ⟨h0, h1, h2, Int.le_refl _⟩
  · exact ⟨h0, h1, h2, Int.le_refl _⟩
theorem enterP_ok {p : Int × Int} {a d H : Int} (h0 : 0 ≤ p.1) (h1 : 0 ≤ p.2) (h2 : p.1 + p.2 ≤ H) (ha : 0 ≤ a) (hd : 0 ≤ d) : 0 ≤ (enterP p a d).1 ∧ 0 ≤ (enterP p a d).2 ∧ (enterP p a d).1 + (enterP p a d).2 ≤ H + (a + d) ∧ p.1 + p.2 ≤ (enterP p a d).1 + (enterP p a d).2 := by
  unfold enterP raiseI
  split <;> split <;> simp only <;> omega
theorem leaveP_ok {p : Int × Int} {a d H : Int} (h0 : 0 ≤ p.1) (h1 : 0 ≤ p.2) (h2 : p.1 + p.2 ≤ H) (ha : 0 ≤ a) (hd : 0 ≤ d) : 0 ≤ (leaveP p a d).1 ∧ 0 ≤ (leaveP p a d).2 ∧ (leaveP p a d).1 + (leaveP p a d).2 ≤ H + (a + d) ∧ p.1 + p.2 ≤ (leaveP p a d).1 + (leaveP p a d).2 := by
  unfold leaveP raiseI
  split <;> split <;> simp only <;> omega
theorem begin_ok {H : Int} {s : Gs} {x : Nd} (h : GsOk H s) (hx : x.fits) : GsOk (H + (x.sty.top + x.sty.padTop)) (beginS x s) ∧ s.place ≤ (beginS x s).place := by
  obtain ⟨t1, t2, t3, t4⟩ := sty_all_pos hx
  obtain ⟨c0, c1, c2, c3⟩ := clearS_ok h x.sty.clear
  obtain ⟨e0, e1, e2, e3⟩ := enterP_ok c0 c1 c2 t1 t3
  exact ⟨⟨e0, e1, e2, fun f hf => (h.fls f hf).mono (by omega)⟩, Int.le_trans c3 e3⟩
theorem end_ok {H : Int} {s : Gs} {x : Nd} (h : GsOk H s) (hx : x.fits) : GsOk (H + (x.sty.bottom + x.sty.padBottom)) (endS x s) ∧ s.place ≤ (endS x s).place := by
  obtain ⟨t1, t2, t3, t4⟩ := sty_all_pos hx
  obtain ⟨e0, e1, e2, e3⟩ := leaveP_ok h.p0 h.p1 h.p2 t2 t4
  exact ⟨⟨e0, e1, e2, fun f hf => (h.fls f hf).mono (by omega)⟩, e3⟩
theorem lns_pen {l : List Fl} {ws : List Int} {sp h a b : Int} (h0 : 0 ≤ h) : ∀ (f i : Nat) (y M : Int) (p : Int × Int), (∀ g ∈ l, g.y + g.h ≤ M) → y ≤ M → 0 ≤ p.1 → 0 ≤ p.2 → p.1 + p.2 = y →
    0 ≤ (penLns h p (lnsF l ws sp h a b f i y)).1 ∧ 0 ≤ (penLns h p (lnsF l ws sp h a b f i y)).2 ∧ y ≤ (penLns h p (lnsF l ws sp h a b f i y)).1 + (penLns h p (lnsF l ws sp h a b f i y)).2 ∧ (penLns h p (lnsF l ws sp h a b f i y)).1 + (penLns h p (lnsF l ws sp h a b f i y)).2 ≤ M + ((lnsF l ws sp h a b f i y).length : Int) * h
  | 0, i, y, M, p, hM, hy, p0, p1, hp => by
    show 0 ≤ p.1 ∧ 0 ≤ p.2 ∧ y ≤ p.1 + p.2 ∧ p.1 + p.2 ≤ M + ((0 : Nat) : Int) * h
    refine ⟨p0, p1, by omega, by simp; omega⟩
  | f + 1, i, y, M, p, hM, hy, p0, p1, hp => by
    unfold lnsF
    by_cases hi : i < ws.length
    · rw [if_pos hi]
      have hy2 : (lineL l ws sp h a b i y).y = seekE l h (wordI ws i) a b y := rfl
      have hge : y ≤ (lineL l ws sp h a b i y).y := by rw [hy2]; exact seekE_ge _
      have hle : (lineL l ws sp h a b i y).y ≤ M := by rw [hy2]; exact seekE_le hM hy
      have ih := lns_pen (l := l) (ws := ws) (sp := sp) (a := a) (b := b) h0 f (lineL l ws sp h a b i y).to_.toNat ((lineL l ws sp h a b i y).y + h) (M + h) ((lineL l ws sp h a b i y).y + h, 0) (fun g hg => by have := hM g hg; omega) (by omega) (by simp only; omega) (Int.le_refl _) (by simp)
      have e : penLns h p (lineL l ws sp h a b i y :: lnsF l ws sp h a b f (lineL l ws sp h a b i y).to_.toNat ((lineL l ws sp h a b i y).y + h)) = penLns h ((lineL l ws sp h a b i y).y + h, 0) (lnsF l ws sp h a b f (lineL l ws sp h a b i y).to_.toNat ((lineL l ws sp h a b i y).y + h)) := rfl
      rw [e]
      obtain ⟨i0, i1, i2, i3⟩ := ih
      refine ⟨i0, i1, by omega, ?_⟩
      rw [List.length_cons, Int.natCast_add, Int.add_mul]
      simp only [Int.natCast_one, Int.one_mul]
      omega
    · rw [if_neg hi]
      show 0 ≤ p.1 ∧ 0 ≤ p.2 ∧ y ≤ p.1 + p.2 ∧ p.1 + p.2 ≤ M + ((0 : Nat) : Int) * h
      refine ⟨p0, p1, by omega, by simp; omega⟩
theorem mul_up {a b : Nat} {h : Int} (hab : a ≤ b) (h0 : 0 ≤ h) : (a : Int) * h ≤ h * (b : Int) := by
  rw [Int.mul_comm]
  exact Int.mul_le_mul_of_nonneg_left (by omega) h0
theorem text_ok {H : Int} {s : Gs} {x : Nd} {rm : Int × Int} {i : Nat} (h : GsOk H s) (hl : 0 ≤ x.line) : GsOk (H + x.line * (x.words.length : Int)) (textS rm i x s) ∧ s.place ≤ (textS rm i x s).place := by
  obtain ⟨i0, i1, i2, i3⟩ := lns_pen (l := s.fls) (ws := x.words) (sp := x.space) (a := rm.1) (b := rm.1 + rm.2) hl (x.words.length - 0) 0 s.place H s.pen h.ends h.p2 h.p0 h.p1 rfl
  have hm := mul_up (lnsL_most (l := s.fls) (ws := x.words) (sp := x.space) (h := x.line) (a := rm.1) (b := rm.1 + rm.2) s.place) hl
  have hn : 0 ≤ x.line * (x.words.length : Int) := Int.mul_nonneg hl (by omega)
  unfold lnsL at hm
  exact ⟨⟨i0, i1, Int.le_trans i3 (by omega), fun f hf => (h.fls f hf).mono (by omega)⟩, i2⟩
theorem box_ok {H : Int} {s : Gs} {x : Nd} {rm : Int × Int} {i : Nat} (h : GsOk H s) (hl : 0 ≤ x.h) : GsOk (H + x.h) (boxS rm i x s) ∧ s.place ≤ boxY rm x s ∧ boxY rm x s ≤ H := by
  have hge : s.place ≤ boxY rm x s := seekE_ge _
  have hle : boxY rm x s ≤ H := seekE_le h.ends h.p2
  have h0 : 0 ≤ s.place := by have := h.p0; have := h.p1; unfold Gs.place; omega
  exact ⟨⟨by show 0 ≤ boxY rm x s + x.h; omega, Int.le_refl _, by show boxY rm x s + x.h + 0 ≤ _; omega, fun f hf => (h.fls f hf).mono (by omega)⟩, hge, hle⟩
theorem fits_place {l : List Fl} {h w a b y : Int} (hab : a ≤ b) (hw : 1 ≤ w) : (fitsF l h w a b y = true → a ≤ (bandL l y h (a, b)).1 ∧ (bandL l y h (a, b)).1 + w ≤ (bandL l y h (a, b)).2 ∧ (bandL l y h (a, b)).2 ≤ b) := by
  intro hf
  obtain ⟨m1, m2⟩ := bandL_mono (y := y) (h := h) l (a, b)
  unfold fitsF lenW at hf
  have := of_decide_eq_true hf
  split at this
  · omega
  · exact ⟨m1, by omega, m2⟩
theorem seekE_end {l : List Fl} {h w a b : Int} : ∀ (k : Nat) (y : Int), cntA l y ≤ k → fitsF l h w a b (seekE l h w a b y) = true ∨ (fitsF l h w a b (seekE l h w a b y) = false ∧ (nextL l (seekE l h w a b y) h a b).2 = false) := by
  intro k
  induction k with
  | zero =>
    intro y hk
    have hv : (nextL l y h a b).2 = false := by
      cases hv : (nextL l y h a b).2 with
      | false => rfl
      | true => have := cnt_next hv; omega
    by_cases hf : fitsF l h w a b y = true
    · rw [seekE_fits hf]; exact .inl hf
    · have hf' : fitsF l h w a b y = false := by simpa using hf
      rw [seekE_none hf' hv]; exact .inr ⟨hf', hv⟩
  | succ k ih =>
    intro y hk
    by_cases hf : fitsF l h w a b y = true
    · rw [seekE_fits hf]; exact .inl hf
    · have hf' : fitsF l h w a b y = false := by simpa using hf
      cases hv : (nextL l y h a b).2 with
      | false => rw [seekE_none hf' hv]; exact .inr ⟨hf', hv⟩
      | true =>
        rw [seekE_next hf' hv]
        exact ih _ (by have := cnt_next hv; omega)
theorem seekE_stands {l : List Fl} {h w a b y : Int} (hab : a ≤ b) (hw : 1 ≤ w) :
    (a ≤ (bandL l (seekE l h w a b y) h (a, b)).1 ∧ (bandL l (seekE l h w a b y) h (a, b)).1 + w ≤ (bandL l (seekE l h w a b y) h (a, b)).2 ∧ (bandL l (seekE l h w a b y) h (a, b)).2 ≤ b) ∨
    (bandL l (seekE l h w a b y) h (a, b) = (a, b) ∧ b - a < w) := by
  rcases seekE_end (l := l) (h := h) (w := w) (a := a) (b := b) _ y (Nat.le_refl _) with hf | ⟨hf, hv⟩
  · exact .inl (fits_place hab hw hf)
  · right
    have hb := next_none_whole hv
    refine ⟨hb, ?_⟩
    unfold fitsF lenW at hf
    rw [hb] at hf
    have := of_decide_eq_false hf
    simp only at this
    split at this <;> omega
theorem spot_stands {l : List Fl} {f : Fl} {y a b : Int} (hab : a ≤ b) (hw : 1 ≤ f.w) (hs : f.side = 1 ∨ f.side = 2) : a ≤ spotX l f y a b ∧ (spotX l f y a b + f.w ≤ b ∨ (spotX l f y a b = a ∧ b - a < f.w)) := by
  unfold spotX
  rw [spotY_seek]
  rcases seekE_stands (l := l) (h := f.h) (w := f.w) (y := startY l y) hab hw with ⟨h1, h2, h3⟩ | ⟨h1, h2⟩
  · split
    · exact ⟨h1, .inl (by omega)⟩
    · exact ⟨by omega, .inl (by omega)⟩
  · rw [h1]
    simp only
    split
    · exact ⟨Int.le_refl _, .inr ⟨rfl, h2⟩⟩
    · exact ⟨by omega, .inr ⟨by omega, h2⟩⟩
theorem startY_bds {l : List Fl} {H : Int} (h : ∀ f ∈ l, FlOk H f) {y : Int} (hy : y ≤ H) : y ≤ startY l y ∧ startY l y ≤ H := by
  unfold startY
  split
  · rename_i hc
    refine ⟨by omega, ?_⟩
    have hne : l ≠ [] := by
      intro e
      subst e
      have := hc.1
      simp [topL] at this
    obtain ⟨g, hg, he⟩ := top_from hne
    have := h g hg
    have := this.y1
    have := (h g hg).h0
    show topF l ≤ H
    omega
  · exact ⟨Int.le_refl _, hy⟩
theorem spotY_bds {l : List Fl} {H : Int} (h : ∀ f ∈ l, FlOk H f) (f : Fl) {y a b : Int} (hy : y ≤ H) : startY l y ≤ spotY l f y a b ∧ spotY l f y a b ≤ H := by
  rw [spotY_seek]
  exact ⟨seekE_ge _, seekE_le (fun g hg => (h g hg).y1) (startY_bds h hy).2⟩
theorem float_ok {H : Int} {s : Gs} {x : Nd} {rm : Int × Int} {i : Nat} (h : GsOk H s) (hr0 : 0 ≤ rm.1) (hr1 : rm.1 ≤ maxX) (hr2 : 1 ≤ rm.2) (hr3 : rm.2 ≤ maxX) (hw0 : 1 ≤ x.w) (hw1 : x.w ≤ maxN) (hh0 : 1 ≤ x.h) (hh1 : x.h ≤ maxN) (hs : x.side = 1 ∨ x.side = 2) :
    GsOk (H + x.h) (floatS rm i x s) := by
  have h0 : 0 ≤ s.place := by have := h.p0; have := h.p1; unfold Gs.place; omega
  refine ⟨h.p0, h.p1, Int.le_trans h.p2 (by omega), fun f hf => ?_⟩
  rcases List.mem_append.1 hf with hf | hf
  · exact (h.fls f hf).mono (by omega)
  · simp only [List.mem_singleton] at hf
    subst hf
    obtain ⟨s1, s2⟩ := spot_stands (l := s.fls) (f := ⟨(i : Int), x.side, (s.ams.length : Int), 0, 0, x.w, x.h⟩) (y := s.place) (a := rm.1) (b := rm.1 + rm.2) (by omega) hw0 hs
    obtain ⟨t1, t2⟩ := startY_bds h.fls h.p2
    obtain ⟨t3, t4⟩ := spotY_bds h.fls ⟨(i : Int), x.side, (s.ams.length : Int), 0, 0, x.w, x.h⟩ (a := rm.1) (b := rm.1 + rm.2) h.p2
    unfold maxX maxN at *
    simp only at s2
    exact ⟨hs, by simp only; omega, by simp only; omega, hw0, hw1, hh0, hh1, by simp only; omega, by simp only; omega⟩
def Clo (L : List Nd) (i e : Nat) : Prop := e ≤ L.length ∧ ∀ (k : Nat) (x : Nd), i ≤ k → k < e → L[k]? = some x → nxt k x ≤ e
theorem Clo.all {L : List Nd} (hn : Nested L) : Clo L 0 L.length := ⟨Nat.le_refl _, fun k x _ _ hx => (nxt_of hn hx).2⟩
theorem Clo.inner {L : List Nd} (hn : Nested L) {i : Nat} {x : Nd} (hx : L[i]? = some x) (hk : x.kind = 1) : Clo L (i + 1) (nxt i x) :=
  ⟨(nxt_of hn hx).2, fun k y h1 h2 hy => nxt_in hn hy hx hk (by omega) h2⟩
theorem Clo.next {L : List Nd} {i e : Nat} {x : Nd} (h : Clo L i e) (hx : L[i]? = some x) : Clo L (nxt i x) e := ⟨h.1, fun k y h1 h2 hy => h.2 k y (by have := nxt_lt i x; omega) h2 hy⟩
theorem Clo.at_ {L : List Nd} {i e : Nat} (h : Clo L i e) (hi : i < e) : ∃ x, L[i]? = some x ∧ nxt i x ≤ e := by
  have hlt : i < L.length := Nat.lt_of_lt_of_le hi h.1
  exact ⟨L[i], List.getElem?_eq_getElem hlt, h.2 i L[i] (Nat.le_refl _) hi (List.getElem?_eq_getElem hlt)⟩
theorem ev_ind {L : List Nd} (hn : Nested L) {P : Nat → Nat → Prop} (h0 : ∀ i e, e ≤ i → P i e)
    (h1 : ∀ (i e : Nat) (x : Nd), i < e → L[i]? = some x → nxt i x ≤ e → (x.kind = 1 → P (i + 1) (nxt i x)) → P (nxt i x) e → P i e) : ∀ (d i e : Nat), e ≤ i + d → Clo L i e → P i e
  | 0, i, e, hd, _ => h0 i e (by omega)
  | d + 1, i, e, hd, hc => by
    by_cases hi : i < e
    · obtain ⟨x, hx, hle⟩ := hc.at_ hi
      have hl := nxt_lt i x
      exact h1 i e x hi hx hle (fun hk => ev_ind hn h0 h1 d (i + 1) (nxt i x) (by omega) (Clo.inner hn hx hk)) (ev_ind hn h0 h1 d (nxt i x) e (by omega) (hc.next hx))
    · exact h0 i e (by omega)
def sumE (L : List Nd) (es : List Ev) : Int := (es.map (evH L)).sum
theorem sumE_nil (L : List Nd) : sumE L [] = 0 := rfl
theorem sumE_cons (L : List Nd) (e : Ev) (es : List Ev) : sumE L (e :: es) = evH L e + sumE L es := by unfold sumE; rw [List.map_cons, List.sum_cons]
theorem sumE_append (L : List Nd) (a b : List Ev) : sumE L (a ++ b) = sumE L a + sumE L b := by unfold sumE; rw [List.map_append, List.sum_append]
theorem evH_pos {L : List Nd} (hf : ∀ y ∈ L, y.fits) : ∀ e : Ev, 0 ≤ evH L e
  | .begin_ i => by
    cases hx : L[i]? with
    | none => show 0 ≤ (match L[i]? with | some x => x.sty.top + x.sty.padTop | none => 0); rw [hx]; exact Int.le_refl _
    | some x =>
      rw [evH_begin hx]
      have := sty_all_pos (hf x (List.mem_of_getElem? hx))
      omega
  | .end_ i => by
    cases hx : L[i]? with
    | none => show 0 ≤ (match L[i]? with | some x => x.sty.bottom + x.sty.padBottom | none => 0); rw [hx]; exact Int.le_refl _
    | some x =>
      rw [evH_end hx]
      have := sty_all_pos (hf x (List.mem_of_getElem? hx))
      omega
  | .leaf i => by
    cases hx : L[i]? with
    | none => show 0 ≤ (match L[i]? with | some x => leafH x | none => 0); rw [hx]; exact Int.le_refl _
    | some x =>
      rw [evH_leaf hx]
      unfold leafH
      rcases hf x (List.mem_of_getElem? hx) with ⟨hk, _, h1, _, _, _, h2, _⟩ | ⟨hk, _, h1, _⟩ | ⟨hk, _, _, _, _, _, h1, _⟩ | ⟨hk, _, _, _, _, _, h1, _⟩
      · rw [if_neg (by omega)]; omega
      · rw [if_pos hk]; have := h1.1; exact Int.mul_nonneg (by omega) (by omega)
      · rw [if_neg (by omega)]; have := h1.1; omega
      · rw [if_neg (by omega)]; have := h1.1; omega
theorem sumE_pos {L : List Nd} (hf : ∀ y ∈ L, y.fits) : ∀ es : List Ev, 0 ≤ sumE L es
  | [] => Int.le_refl _
  | e :: es => by rw [sumE_cons]; have := evH_pos hf e; have := sumE_pos hf es; omega
theorem highN_leaf {x : Nd} (hk : x.kind ≠ 1) : highN x = leafH x := by
  unfold highN leafH
  rw [if_neg hk]
theorem sumE_le {L : List Nd} (hn : Nested L) (hf : ∀ y ∈ L, y.fits) : ∀ (d i e : Nat), e ≤ i + d → Clo L i e → i ≤ e → sumE L (evN L i e) ≤ sumI highN (L.take e) - sumI highN (L.take i) := by
  intro d i e hd hc
  refine ev_ind hn (P := fun i e => i ≤ e → sumE L (evN L i e) ≤ sumI highN (L.take e) - sumI highN (L.take i)) ?_ ?_ d i e hd hc
  · intro i e he hi
    obtain rfl : i = e := by omega
    rw [evN_end (Nat.le_refl _), sumE_nil]
    omega
  · intro i e x hi hx hle hin hnx _
    have hl := nxt_lt i x
    have h2 := hnx hle
    have h3 := sumI_take highN hx
    rw [evN_step hi hx hle, sumE_append]
    by_cases hk : x.kind = 1
    · have h4 := hin hk (by omega)
      unfold ev1
      rw [if_pos hk, sumE_cons, sumE_append, sumE_cons, sumE_nil, evH_begin hx, evH_end hx]
      have h5 : highN x = x.sty.top + x.sty.bottom + x.sty.padTop + x.sty.padBottom + x.sty.head := by unfold highN; rw [if_pos hk]
      have h6 := (sty_pos (hf x (List.mem_of_getElem? hx)) hk).2.2.2.2
      omega
    · unfold ev1
      rw [if_neg hk, sumE_cons, sumE_nil, evH_leaf hx, ← highN_leaf hk]
      rw [nxt_leaf hn hx hk] at h2 ⊢
      omega
theorem sumE_all {L : List Nd} (hn : Nested L) (hf : ∀ y ∈ L, y.fits) : sumE L (evN L 0 L.length) ≤ sumI highN L := by
  have := sumE_le hn hf L.length 0 L.length (by omega) (Clo.all hn) (by omega)
  rw [List.take_length] at this
  simpa [sumI_nil] using this
theorem ev_ok {L : List Nd} (hf : ∀ y ∈ L, y.fits) {w H : Int} (h1 : 1 ≤ w) (h2 : w ≤ maxX) {s : Gs} (h : GsOk H s) : ∀ e : Ev, GsOk (H + evH L e) (evS L w s e)
  | .begin_ i => by
    cases hx : L[i]? with
    | none =>
      show GsOk (H + (match L[i]? with | some x => x.sty.top + x.sty.padTop | none => 0)) (match L[i]? with | some x => beginS x s | none => s)
      rw [hx]; simpa using h
    | some x => rw [evH_begin hx, evS_begin hx]; exact (begin_ok h (hf x (List.mem_of_getElem? hx))).1
  | .end_ i => by
    cases hx : L[i]? with
    | none =>
      show GsOk (H + (match L[i]? with | some x => x.sty.bottom + x.sty.padBottom | none => 0)) (match L[i]? with | some x => endS x s | none => s)
      rw [hx]; simpa using h
    | some x => rw [evH_end hx, evS_end hx]; exact (end_ok h (hf x (List.mem_of_getElem? hx))).1
  | .leaf i => by
    cases hx : L[i]? with
    | none =>
      show GsOk (H + (match L[i]? with | some x => leafH x | none => 0)) (match L[i]? with | some x => leafS (roomP L w i) i x s | none => s)
      rw [hx]; simpa using h
    | some x =>
      rw [evH_leaf hx, evS_leaf hx]
      obtain ⟨r0, r1, r2, r3⟩ := room_bd hf h1 h2 i
      unfold leafH leafS
      rcases hf x (List.mem_of_getElem? hx) with ⟨hk, _, _, _, _, _, hh, _⟩ | ⟨hk, _, hl, _⟩ | ⟨hk, _, _, _, _, hw, hh, _⟩ | ⟨hk, _, _, _, _, hw, hh, hs⟩
      · rw [if_neg (by omega), if_neg (by omega), if_neg (by omega), if_neg (by omega), hh]; simpa using h
      · rw [if_pos hk, if_pos hk]; have := hl.1; exact (text_ok h (by omega)).1
      · rw [if_neg (by omega), if_neg (by omega), if_pos hk]; have := hh.1; exact (box_ok h (by omega)).1
      · rw [if_neg (by omega), if_neg (by omega), if_neg (by omega), if_pos hk]
        exact float_ok h r0 r1 r2 (by omega) hw.1 hw.2 hh.1 hh.2 (by have := hs.1; have := hs.2; omega)
theorem run_ok {L : List Nd} (hf : ∀ y ∈ L, y.fits) {w : Int} (h1 : 1 ≤ w) (h2 : w ≤ maxX) : ∀ (es : List Ev) {H : Int} {s : Gs}, GsOk H s → GsOk (H + sumE L es) (runS L w s es)
  | [], H, s, h => by rw [sumE_nil]; simpa [runS] using h
  | e :: es, H, s, h => by
    rw [sumE_cons, ← Int.add_assoc]
    exact run_ok hf h1 h2 es (ev_ok hf h1 h2 h e)
theorem evS_lenK {K : Nat} {L : List Nd} {w : Int} (hw : ∀ y ∈ L, y.words.length ≤ K) (hK : 1 ≤ K) (s : Gs) : ∀ e : Ev, (evS L w s e).ams.length ≤ s.ams.length + K ∧ (evS L w s e).fls.length ≤ s.fls.length + 1 ∧ s.ams.length ≤ (evS L w s e).ams.length ∧ s.fls.length ≤ (evS L w s e).fls.length
  | .begin_ i => by
    cases hx : L[i]? with
    | none => rw [show evS L w s (.begin_ i) = s by show (match L[i]? with | some x => beginS x s | none => s) = _; rw [hx]]; omega
    | some x => rw [evS_begin hx]; unfold beginS; simp only; omega
  | .end_ i => by
    cases hx : L[i]? with
    | none => rw [show evS L w s (.end_ i) = s by show (match L[i]? with | some x => endS x s | none => s) = _; rw [hx]]; omega
    | some x => rw [evS_end hx]; unfold endS; simp only; omega
  | .leaf i => by
    cases hx : L[i]? with
    | none => rw [show evS L w s (.leaf i) = s by show (match L[i]? with | some x => leafS (roomP L w i) i x s | none => s) = _; rw [hx]]; omega
    | some x =>
      rw [evS_leaf hx]
      have hb := hw x (List.mem_of_getElem? hx)
      have hm := lnsL_most (l := s.fls) (ws := x.words) (sp := x.space) (h := x.line) (a := (roomP L w i).1) (b := (roomP L w i).1 + (roomP L w i).2) s.place
      unfold leafS
      split
      · unfold textS; simp only [List.length_append, List.length_map]; omega
      · split
        · unfold boxS; simp only [List.length_append, List.length_cons, List.length_nil]; omega
        · split
          · unfold floatS putL; simp only [List.length_append, List.length_cons, List.length_nil]; omega
          · omega
theorem runS_lenK {K : Nat} {L : List Nd} {w : Int} (hw : ∀ y ∈ L, y.words.length ≤ K) (hK : 1 ≤ K) : ∀ (es : List Ev) (s : Gs), (runS L w s es).ams.length ≤ s.ams.length + K * es.length ∧ (runS L w s es).fls.length ≤ s.fls.length + es.length ∧ s.ams.length ≤ (runS L w s es).ams.length ∧ s.fls.length ≤ (runS L w s es).fls.length
  | [], s => by show s.ams.length ≤ _ ∧ s.fls.length ≤ _ ∧ _ ≤ s.ams.length ∧ _ ≤ s.fls.length; omega
  | e :: es, s => by
    have h1 := evS_lenK (w := w) hw hK s e
    have h2 := runS_lenK (w := w) hw hK es (evS L w s e)
    have e1 : runS L w s (e :: es) = runS L w (evS L w s e) es := rfl
    rw [e1, List.length_cons, Nat.mul_succ]
    omega
theorem runS_len {L : List Nd} {w : Int} (hw : ∀ y ∈ L, y.words.length ≤ 60) (es : List Ev) (s : Gs) : (runS L w s es).ams.length ≤ s.ams.length + 60 * es.length ∧ (runS L w s es).fls.length ≤ s.fls.length + es.length ∧ s.ams.length ≤ (runS L w s es).ams.length ∧ s.fls.length ≤ (runS L w s es).fls.length := runS_lenK hw (by decide) es s
theorem evN_len {L : List Nd} (hn : Nested L) : ∀ (d i e : Nat), e ≤ i + d → Clo L i e → (evN L i e).length ≤ 2 * (e - i) := by
  intro d i e hd hc
  refine ev_ind hn (P := fun i e => (evN L i e).length ≤ 2 * (e - i)) ?_ ?_ d i e hd hc
  · intro i e he
    rw [evN_end he]; simp
  · intro i e x hi hx hle hin hnx
    have hl := nxt_lt i x
    rw [evN_step hi hx hle, List.length_append]
    by_cases hk : x.kind = 1
    · have h4 := hin hk
      unfold ev1
      rw [if_pos hk]
      simp only [List.length_cons, List.length_append, List.length_nil]
      omega
    · unfold ev1
      rw [if_neg hk]
      simp only [List.length_cons, List.length_nil]
      omega
end Go.Proofs.Ytipmdhfinlkceaa
