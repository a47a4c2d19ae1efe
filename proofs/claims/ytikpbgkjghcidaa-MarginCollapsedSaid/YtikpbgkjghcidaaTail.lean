import Derived.StillTail
import Derived.Test.YtikpbgkjghcidaaOn
import Derived.OrdersHeld
import Derived.Deep.RegionHeld
/- A region that draws its order and whose last operation waits for all others: its head alone draws, and the last one comes behind. Nothing of the program stands here. -/
namespace Go.Proofs.Ytikpbgkjghcidaa
open Go
set_option linter.unusedVariables false
set_option linter.unusedSimpArgs false
section
variable {P : Program} {ops : Array Oper} {Q : Exit → Act → World → Prop}
def headOf (ops : Array Oper) (n : Nat) : Array Oper := (ops.toList.take n).toArray
theorem headOf_lt {n i : Nat} (h : i < n) : (headOf ops n)[i]? = ops[i]? := by
  unfold headOf; simp [List.getElem?_take, h]
theorem headOf_ge {n i : Nat} (h : n ≤ i) : (headOf ops n)[i]? = none := by
  unfold headOf; simp [List.getElem?_take, Nat.not_lt.2 h]
theorem headOf_size {n : Nat} (h : n ≤ ops.size) : (headOf ops n).size = n := by
  unfold headOf; simp; omega
/-- what is asked behind the head: the last operation. -/
def TailPost (P : Program) (ops : Array Oper) (o : Oper) (Q : Exit → Act → World → Prop) : Exit → Act → World → Prop
  | .normal, a, w => wpList P ops Q [o] a w
  | e, a, w => Q e a w
/-- each operation waits for, and is guarded by, earlier ones alone. -/
def backB (ops : Array Oper) : Bool := (List.range ops.size).all fun i => match ops[i]? with
  | some o => (o.after.all fun e => decide (e.on < i)) && (match o.guard with | some (g, _) => decide (g < i) | none => true)
  | none => true
theorem backB_spec (h : backB ops = true) {i : Nat} {o : Oper} (ho : ops[i]? = some o) : (∀ e ∈ o.after, e.on < i) ∧ ∀ g b, o.guard = some (g, b) → g < i := by
  have hlt : i < ops.size := (Array.getElem?_eq_some_iff.1 ho).1
  have h1 := List.all_eq_true.1 h i (List.mem_range.2 hlt)
  simp only [ho, Bool.and_eq_true] at h1
  refine ⟨fun e he => ?_, fun g b hg => ?_⟩
  · have := Array.all_eq_true_iff_forall_mem.1 h1.1 e he
    simpa using this
  · have := h1.2
    rw [hg] at this
    simpa using this
theorem wp_tail {o' o : Oper} {a : Act} {w : World} {K K' : Act → World → Prop} (h : ∀ a w, K a w → K' a w)
    (hh : o.wp P a w K (TailPost P ops o' Q)) : o.wp P a w K' Q := by
  unfold Oper.wp at *
  generalize (execOp a.eval o).run P w = r at *
  cases r with
  | ok n w' =>
    cases n <;> simp only [Oper.upon] at hh ⊢ <;>
      first
        | exact h _ _ hh
        | exact Calls.mono hh (fun e w'' he => by cases e <;> first | exact h _ _ he | exact he)
        | exact Rows.mono hh (fun _ _ he => h _ _ he)
  | halt x w' => cases x <;> simp only [Oper.upon] at hh ⊢ <;> exact hh
theorem wanted_head {n i : Nat} (hb : backB ops = true) (hi : i < n) {o : Oper} (ho : ops[i]? = some o) (t : Array Value) :
    Region.wanted o (yielded (headOf ops n) t) = Region.wanted o (yielded ops t) := by
  unfold Region.wanted
  cases hg : o.guard with
  | none => rfl
  | some p =>
    obtain ⟨g, b⟩ := p
    have hlt := (backB_spec hb ho).2 g b hg
    show (yielded (headOf ops n) t g == some b) = (yielded ops t g == some b)
    unfold yielded
    rw [headOf_lt (by omega)]
theorem wpOp_tail {n i : Nat} {o' : Oper} (hb : backB ops = true) (hi : i < n) {a : Act} {w : World} {K K' : Act → World → Prop} (h : ∀ a w, K a w → K' a w)
    (hh : wpOp P (headOf ops n) (TailPost P ops o' Q) i K a w) : wpOp P ops Q i K' a w := by
  unfold wpOp at *
  rw [headOf_lt hi] at hh
  cases ho : ops[i]? with
  | none => simp only [ho] at hh; exact h _ _ hh
  | some o =>
    simp only [ho] at hh ⊢
    rw [wanted_head hb hi ho] at hh
    split
    · rename_i hw
      simp only [hw, if_true] at hh
      rcases hh with hh | ⟨h1, h2⟩
      · exact .inl (wp_tail h hh)
      · exact .inr ⟨h1, h2⟩
    · rename_i hw; simp only [hw] at hh; exact h _ _ hh
theorem wpAny_done {md : Region.Mode} {listed : Array Bool} {a : Act} {w : World} (hr : Region.ready md ops listed = []) (h : Q .normal a w) : ∀ f, wpAny P md ops Q f listed a w
  | 0 => ⟨hr, h⟩
  | f + 1 => ⟨fun _ => h, fun i hi => by rw [hr] at hi; cases hi⟩
theorem getD_of {l : Array Bool} {i : Nat} {b d : Bool} (h : l[i]? = some b) : l.getD i d = b := by
  simp [Array.getD_eq_getD_getElem?, h]
theorem ready_head {n : Nat} (hb : backB ops = true) {listed listedH : Array Bool} (hl : ∀ i, i < n → listedH[i]? = listed[i]?) {i : Nat} (hi : i < n) :
    i ∈ Region.ready .any (headOf ops n) listedH ↔ i ∈ Region.ready .any ops listed := by
  have hg : ∀ j d, j < n → listedH.getD j d = listed.getD j d := fun j d hj => by rw [Array.getD_eq_getD_getElem?, Array.getD_eq_getD_getElem?, hl j hj]
  rw [mem_ready, mem_ready, headOf_lt hi, hg i _ hi]
  constructor
  · rintro ⟨h0, o, ho, h⟩
    exact ⟨h0, o, ho, fun e he hm => by rw [← hg _ _ (Nat.lt_trans ((backB_spec hb ho).1 e he) hi)]; exact h e he hm⟩
  · rintro ⟨h0, o, ho, h⟩
    exact ⟨h0, o, ho, fun e he hm => by rw [hg _ _ (Nat.lt_trans ((backB_spec hb ho).1 e he) hi)]; exact h e he hm⟩
theorem tailEnd {n f : Nat} {o : Oper} {listed listedH : Array Bool} {a : Act} {w : World} (hsz : ops.size = n + 1) (hb : backB ops = true) (ho : ops[n]? = some o)
    (hr : Region.ready .any (headOf ops n) listedH = []) (h : TailPost P ops o Q .normal a w) (inv : HeadInv .any ops n listed) (hl : ∀ i, i < n → listedH[i]? = listed[i]?) : wpAny P .any ops Q (f + 1) listed a w := by
  have hsl : listed.size = n + 1 := inv.size.trans hsz
  have both : ∀ i, i < n + 1 → ∀ b, listed.getD i true = b → listed.getD i false = b := fun i hi b hb' => by
    simp only [Array.getD_eq_getD_getElem?, Array.getElem?_eq_getElem (by omega : i < listed.size), Option.getD_some] at hb' ⊢
    exact hb'
  have hall : ∀ i, i < n → listed.getD i true = true := by
    intro i
    induction i using Nat.strongRecOn with
    | _ i ih =>
      intro hi
      cases hv : listed.getD i true with
      | true => rfl
      | false =>
        exfalso
        have hoi : ops[i]? = some ops[i] := Array.getElem?_eq_getElem (by omega)
        have hm : i ∈ Region.ready .any ops listed := mem_ready.2 ⟨hv, ops[i], hoi, fun e he _ => by
          have hlt := (backB_spec hb hoi).1 e he
          exact both _ (by omega) _ (ih e.on hlt (by omega))⟩
        have := (ready_head hb hl hi).2 hm
        rw [hr] at this; cases this
  have hn : n ∈ Region.ready .any ops listed := mem_ready.2 ⟨inv.tail n (Nat.le_refl _) (by omega), o, ho, fun e he _ => by
    have hlt := (backB_spec hb ho).1 e he
    exact both _ (by omega) _ (hall e.on hlt)⟩
  refine ⟨fun h0 => (by rw [h0] at hn; cases hn), fun i hi => ?_⟩
  have hin : i = n := by
    obtain ⟨h0, oi, hoi, _⟩ := mem_ready.1 hi
    have hlt : i < ops.size := (Array.getElem?_eq_some_iff.1 hoi).1
    rcases Nat.lt_or_ge i n with h' | h'
    · rw [hall i h'] at h0; cases h0
    · omega
  subst hin
  have hnil : Region.ready .any ops (listed.setIfInBounds i true) = [] := by
    rw [List.eq_nil_iff_forall_not_mem]
    intro j hj
    obtain ⟨h0, oj, hoj, _⟩ := mem_ready.1 hj
    have hlt : j < ops.size := (Array.getElem?_eq_some_iff.1 hoj).1
    by_cases hij : i = j
    · subst hij
      simp [Array.getD_eq_getD_getElem?, Array.getElem?_setIfInBounds, hsl] at h0
    · rw [getD_set_ne true hij] at h0
      rw [hall j (by omega)] at h0; cases h0
  have hdone : ∀ a' w', wpList P ops Q [] a' w' → wpAny P .any ops Q f (listed.setIfInBounds i true) a' w' := fun a' w' hq => wpAny_done hnil hq f
  have h' : wpList P ops Q [o] a w := h
  unfold wpList at h'
  unfold wpOp
  simp only [ho]
  split
  · rename_i hw
    simp only [hw, if_true] at h'
    exact h'.imp (Oper.wp_mono hdone) id
  · rename_i hw
    simp only [hw] at h'
    exact hdone _ _ h'
def tailB (ops : Array Oper) (n : Nat) : Bool := ops.size == n + 1 && Region.sinkB .any ops n && backB ops
theorem wpAny_tail {n : Nat} {o : Oper} (hsz : ops.size = n + 1) (hs : Region.sinkB .any ops n = true) (hb : backB ops = true) (ho : ops[n]? = some o) :
    ∀ (f : Nat) (listed listedH : Array Bool) (a : Act) (w : World), HeadInv .any ops n listed → (∀ i, i < n → listedH[i]? = listed[i]?) →
      wpAny P .any (headOf ops n) (TailPost P ops o Q) f listedH a w → wpAny P .any ops Q (f + 1) listed a w := by
  have hc : Region.chainB .any ops n = true := List.all_eq_true.2 fun t ht => by
    have := List.mem_range.1 ht
    simp only [Bool.or_eq_true, decide_eq_true_eq]; left; omega
  intro f
  induction f with
  | zero =>
    intro listed listedH a w inv hl h
    exact tailEnd hsz hb ho h.1 h.2 inv hl
  | succ f ih =>
    intro listed listedH a w inv hl h
    by_cases hr : Region.ready .any (headOf ops n) listedH = []
    · exact tailEnd hsz hb ho hr (h.1 hr) inv hl
    · obtain ⟨i0, hi0⟩ := List.exists_mem_of_ne_nil _ hr
      have hi0n : i0 < n := by
        obtain ⟨_, o0, ho0, _⟩ := mem_ready.1 hi0
        rcases Nat.lt_or_ge i0 n with h' | h'
        · exact h'
        · rw [headOf_ge h'] at ho0; cases ho0
      have hi0' := (ready_head hb hl hi0n).1 hi0
      refine ⟨fun h0 => (by rw [h0] at hi0'; cases hi0'), fun i hi => ?_⟩
      rcases Nat.lt_or_ge i n with hin | hin
      · refine wpOp_tail hb hin (fun a' w' h' => ih _ _ a' w' (inv.set hi hin) (fun j hj => ?_) h') (h.2 i ((ready_head hb hl hin).2 hi))
        rw [Array.getElem?_setIfInBounds, Array.getElem?_setIfInBounds]
        have hsl : listed.size = n + 1 := inv.size.trans hsz
        have hsH : i < listedH.size := by
          have e1 := hl i hin
          rw [Array.getElem?_eq_getElem (by omega : i < listed.size)] at e1
          exact (Array.getElem?_eq_some_iff.1 e1).1
        by_cases hij : i = j
        · subst hij; rw [if_pos rfl, if_pos rfl, if_pos hsH, if_pos (by omega)]
        · rw [if_neg hij, if_neg hij]; exact hl j hj
      · exact absurd hi (tail_waits hs hc (by omega) inv _ i0 rfl hi0n (mem_ready.1 hi0').1 i hin)
theorem wp_region_tail (n : Nat) {id : Nat} {o : Oper} {a : Act} {w : World} (hm : P.follows .mixedOrders = true) (hB : tailB ops n = true) (ho : ops[n]? = some o)
    (h : wpAny P .any (headOf ops n) (TailPost P ops o Q) n (Array.replicate n false) a w.drew) : (Code.region id ops true).wp P Q a w := by
  unfold tailB at hB
  simp only [Bool.and_eq_true, beq_iff_eq] at hB
  obtain ⟨⟨hsz, hs⟩, hb⟩ := hB
  refine wp_region_any hm ?_
  rw [hsz]
  refine wpAny_tail hsz hs hb ho n (Array.replicate (n + 1) false) (Array.replicate n false) a w.drew ?_ (fun i hi => ?_) h
  · exact ⟨by simp [hsz], fun j oj hj hl => absurd hl (by rw [getD_replicate_false]; decide), fun t ht ht2 => by
      have : t = n := by omega
      subst this; simp⟩
  · rw [Array.getElem?_replicate, Array.getElem?_replicate, if_pos hi, if_pos (by omega)]
/-- .. its head reads alone, and its callees read, draw and make memory. -/
theorem wp_region_on_tail (n : Nat) {id : Nat} {o : Oper} {a : Act} {W : World} (hm : P.follows .mixedOrders = true) (hB : tailB ops n = true) (ho : ops[n]? = some o) (hL : Region.lexB .any (headOf ops n) = true)
    (h : wpQuiet P (headOf ops n) (fun w' => ∃ p : OnW W, w' = p.w) (fun a' => ∀ w', (∃ p : OnW W, w' = p.w) → wpList P ops Q [o] a' w') (headOf ops n).toList a) : (Code.region id ops true).wp P Q a W := by
  have hsz : ops.size = n + 1 := by
    unfold tailB at hB
    simp only [Bool.and_eq_true, beq_iff_eq] at hB
    exact hB.1.1
  have hn : (headOf ops n).size = n := headOf_size (by omega)
  simp only [Region.lexB, Bool.and_eq_true] at hL
  refine wp_region_tail n hm hB ho ?_
  refine wpAny_of_quiet (C := fun w' => ∃ p : OnW W, w' = p.w) (Q := fun a' => ∀ w', (∃ p : OnW W, w' = p.w) → wpList P ops Q [o] a' w') (fun _ w' hw' h => h w' hw') _ _ _ _ ⟨⟨W.drew, (On.refl W).drew⟩, rfl⟩ ?_
  have := wpAnyQ_lex (C := fun w' => ∃ p : OnW W, w' = p.w) (md := .any) hL.1 (headOf ops n).toList 0 (Array.replicate (headOf ops n).size false) a (by simp) (by simpa using hL.2) h
  rw [hn] at this
  simpa [hn] using this
/-- .. S holds in its head: no operation but the last one may change what S says. -/
theorem wp_region_held_tail (n : Nat) {id : Nat} {o : Oper} {a : Act} {w : World} {S : World → Prop} (hm : P.follows .mixedOrders = true) (hB : tailB ops n = true) (ho : ops[n]? = some o) (hS : S w.drew)
    (h : S w.drew → wpAnyH P .any (headOf ops n) (TailPost P ops o Q) S n (Array.replicate n false) a w.drew) : (Code.region id ops true).wp P Q a w :=
  wp_region_tail n hm hB ho (wpAny_of_held _ _ _ _ (h hS))
end
end Go.Proofs.Ytikpbgkjghcidaa
