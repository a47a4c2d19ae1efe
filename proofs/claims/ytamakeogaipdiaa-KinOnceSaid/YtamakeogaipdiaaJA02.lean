import Derived.Test.YtamakeogaipdiaaJA01
import Derived.Test.YtamakeogaipdiaaJA00
/- Which blocks end, begin, go on between two atoms, told by the atoms' nodes. Nothing of the program stands here. -/
namespace Go.Proofs.Ytamakeogaipdiaa
open Go
set_option linter.unusedVariables false
set_option linter.unusedSimpArgs false
/-- a text or a box. -/
def leafK (L : List Nd) (a : Int) : Bool := decide (0 ≤ a) && (match L[a.toNat]? with | some x => decide (x.kind = 2) || decide (x.kind = 3) | none => false)
def cntK (of : List Int) (a : Int) : Nat := (of.filter fun b => decide (b = a)).length
def atK (L : List Nd) (of : List Int) (i : Nat) : Bool := match of[i]? with
  | some a => leafK L a && (match i with | 0 => true | j + 1 => match of[j]? with | some b => decide (b ≤ a) | none => true)
  | none => true
def manyK (L : List Nd) (of : List Int) (i : Nat) : Bool := match L[i]? with
  | some x => (if x.kind = 2 then decide (1 ≤ cntK of (i : Int)) && decide (cntK of (i : Int) ≤ x.words.length) else true) && (if x.kind = 3 then decide (cntK of (i : Int) = 1) else true)
  | none => true
/-- whether a row of atoms' nodes may be. -/
def kinB (L : List Nd) (of : List Int) : Bool := docB L && ((List.range of.length).all (atK L of) && (List.range L.length).all (manyK L of))
def chkK (L : List Nd) (of : List Int) : Int := if kinB L of then 0 else 4
structure KinOk (L : List Nd) (of : List Int) : Prop where
  doc : IsDoc L
  leaf : ∀ (i : Nat) (a : Int), of[i]? = some a → ∃ (j : Nat) (x : Nd), a = (j : Int) ∧ L[j]? = some x ∧ (x.kind = 2 ∨ x.kind = 3)
  rise : ∀ (i j : Nat) (a b : Int), i ≤ j → of[i]? = some a → of[j]? = some b → a ≤ b
theorem leafK_iff {L : List Nd} {a : Int} : leafK L a = true ↔ ∃ (j : Nat) (x : Nd), a = (j : Int) ∧ L[j]? = some x ∧ (x.kind = 2 ∨ x.kind = 3) := by
  unfold leafK
  constructor
  · intro h
    rw [Bool.and_eq_true, decide_eq_true_eq] at h
    obtain ⟨h0, h1⟩ := h
    cases hx : L[a.toNat]? with
    | none => rw [hx] at h1; cases h1
    | some x => rw [hx] at h1; exact ⟨a.toNat, x, by omega, hx, by simpa using h1⟩
  · rintro ⟨j, x, rfl, hx, hk⟩
    rw [decide_eq_true (by omega), Int.toNat_natCast, hx]
    simpa using hk
theorem kin_ok {L : List Nd} {of : List Int} (h : kinB L of = true) : KinOk L of := by
  unfold kinB at h
  rw [Bool.and_eq_true, Bool.and_eq_true, List.all_eq_true, List.all_eq_true] at h
  obtain ⟨hd, ha, _⟩ := h
  have hat : ∀ (i : Nat) (a : Int), of[i]? = some a → leafK L a = true ∧ ∀ (j : Nat) (b : Int), i = j + 1 → of[j]? = some b → b ≤ a := fun i a hi => by
    have h1 := ha i (List.mem_range.2 (List.getElem?_eq_some_iff.1 hi).1)
    unfold atK at h1
    rw [hi] at h1
    simp only [Bool.and_eq_true] at h1
    refine ⟨h1.1, fun j b hj hb => ?_⟩
    subst hj
    have h2 := h1.2
    simp only [hb] at h2
    simpa using h2
  refine ⟨(docB_iff L).1 hd, fun i a hi => leafK_iff.1 (hat i a hi).1, fun i j a b hij hi hj => ?_⟩
  induction j generalizing b with
  | zero =>
    obtain rfl : i = 0 := by omega
    rw [hi] at hj; injection hj with hj; omega
  | succ j ih =>
    rcases Nat.lt_or_ge i (j + 1) with h1 | h1
    · have hl : j < of.length := by have := (List.getElem?_eq_some_iff.1 hj).1; omega
      have hm : of[j]? = some of[j] := List.getElem?_eq_getElem hl
      have h2 := ih of[j] (by omega) hm
      have h3 := (hat (j + 1) b hj).2 j of[j] rfl hm
      omega
    · obtain rfl : i = j + 1 := by omega
      rw [hi] at hj; injection hj with hj; omega
/-- how many stand below a number. -/
def cutI (of : List Int) (x : Int) : Nat := (of.takeWhile fun y => decide (y < x)).length
theorem cutI_le (of : List Int) (x : Int) : cutI of x ≤ of.length := (List.takeWhile_sublist _).length_le
theorem cutI_lt {of : List Int} (hr : ∀ (i j : Nat) (a b : Int), i ≤ j → of[i]? = some a → of[j]? = some b → a ≤ b) (x : Int) : ∀ {k : Nat} {a : Int}, of[k]? = some a → (k < cutI of x ↔ a < x) := by
  unfold cutI
  induction of with
  | nil => intro k a h; simp at h
  | cons c of ih =>
    have hr2 : ∀ (i j : Nat) (a b : Int), i ≤ j → of[i]? = some a → of[j]? = some b → a ≤ b := fun i j a b hij hi hj => hr (i + 1) (j + 1) a b (by omega) (by simpa using hi) (by simpa using hj)
    intro k a hk
    by_cases hc : c < x
    · rw [List.takeWhile_cons_of_pos (by simpa using hc), List.length_cons]
      cases k with
      | zero => simp at hk; subst hk; exact ⟨fun _ => hc, fun _ => by omega⟩
      | succ k =>
        have := ih hr2 (k := k) (a := a) (by simpa using hk)
        omega
    · rw [List.takeWhile_cons_of_neg (by simpa using hc)]
      have := hr 0 k c a (Nat.zero_le _) rfl hk
      simp
      omega
/-- the atom at a place. -/
def ofAt (of : List Int) (k : Int) : Option Int := if 0 ≤ k then of[k.toNat]? else none
/-- whether a node holds an atom. -/
def holdA (L : List Nd) (of : List Int) (b : Nat) (k : Int) : Bool := match ofAt of k with
  | some a => holdP L b a.toNat
  | none => false
def blockK (L : List Nd) (b : Nat) : Bool := match L[b]? with
  | some x => decide (x.kind = 1)
  | none => false
def endK (L : List Nd) (of : List Int) (k : Int) (b : Nat) : Bool := blockK L b && (holdA L of b (k - 1) && !holdA L of b k)
def begK (L : List Nd) (of : List Int) (k : Int) (b : Nat) : Bool := blockK L b && (holdA L of b k && !holdA L of b (k - 1))
def bothK (L : List Nd) (of : List Int) (k : Int) (b : Nat) : Bool := blockK L b && (holdA L of b (k - 1) && holdA L of b k)
/-- the kin of a place. -/
structure Kn where
  ends : List Int
  begs : List Int
  both : List Int
  text : Int
def intsK (p : Nat → Bool) (n : Nat) : List Int := ((List.range n).filter p).map fun i : Nat => (i : Int)
def textK (of : List Int) (k : Int) : Int := match ofAt of k, ofAt of (k - 1) with
  | some a, some b => if a = b then a else -1
  | _, _ => -1
def kinK (L : List Nd) (of : List Int) (k : Int) : Kn := ⟨(intsK (endK L of k) L.length).reverse, intsK (begK L of k) L.length, (intsK (bothK L of k) L.length).reverse, textK of k⟩
theorem ofAt_nat (of : List Int) (k : Nat) : ofAt of (k : Int) = of[k]? := by unfold ofAt; rw [if_pos (by omega), Int.toNat_natCast]
theorem holdA_iff {L : List Nd} {of : List Int} (h : KinOk L of) {b : Nat} {x : Nd} (hx : L[b]? = some x) {k : Int} : holdA L of b k = true ↔ (0 ≤ k ∧ k < (of.length : Int)) ∧ (cutI of (b : Int) : Int) ≤ k ∧ k < (cutI of ((b : Int) + x.size) : Int) := by
  unfold holdA ofAt
  by_cases h0 : 0 ≤ k
  · rw [if_pos h0]
    cases ha : of[k.toNat]? with
    | none =>
      have := List.getElem?_eq_none_iff.1 ha
      simp only
      constructor
      · intro h9; cases h9
      · rintro ⟨⟨_, h9⟩, _⟩; omega
    | some a =>
      have hl := (List.getElem?_eq_some_iff.1 ha).1
      obtain ⟨j, y, rfl, hj, _⟩ := h.leaf _ _ ha
      have hjl := (List.getElem?_eq_some_iff.1 hj).1
      have c1 := cutI_lt h.rise (b : Int) ha
      have c2 := cutI_lt h.rise ((b : Int) + x.size) ha
      simp only
      rw [Int.toNat_natCast, holdP_iff]
      constructor
      · rintro ⟨z, hz, _, h1, h2⟩
        rw [hx] at hz
        injection hz with hz
        subst hz
        refine ⟨by omega, ?_, ?_⟩
        · have : ¬ k.toNat < cutI of (b : Int) := fun h9 => by have := c1.1 h9; omega
          omega
        · have := c2.2 (by omega); omega
      · rintro ⟨_, h1, h2⟩
        have h3 : ¬ ((j : Int) < (b : Int)) := fun h9 => by have := c1.2 h9; omega
        have h4 := c2.1 (by omega)
        exact ⟨x, hx, hjl, by omega, by omega⟩
  · rw [if_neg h0]
    simp only
    constructor
    · intro h9; cases h9
    · rintro ⟨⟨h9, _⟩, _⟩; omega
/-- which atoms a block holds. -/
def heldK (L : List Nd) (of : List Int) (b : Int) : Int × Int := if 0 ≤ b then match L[b.toNat]? with
    | some x => if x.kind = 1 ∧ cutI of b < cutI of (b + x.size) then ((cutI of b : Int), (cutI of (b + x.size) : Int)) else (0, 0)
    | none => (0, 0)
  else (0, 0)
theorem heldK_nat {L : List Nd} (of : List Int) {b : Nat} {x : Nd} (hx : L[b]? = some x) : heldK L of (b : Int) = if x.kind = 1 ∧ cutI of (b : Int) < cutI of ((b : Int) + x.size) then ((cutI of (b : Int) : Int), (cutI of ((b : Int) + x.size) : Int)) else (0, 0) := by
  unfold heldK
  rw [if_pos (by omega), Int.toNat_natCast, hx]
/-- where a block begins, goes on, ends. -/
theorem kin_once {L : List Nd} {of : List Int} (h : KinOk L of) {b : Nat} {x : Nd} (hx : L[b]? = some x) {p q k : Int} (hv : heldK L of (b : Int) = (p, q)) (h0 : 0 ≤ k) (h1 : k ≤ (of.length : Int)) :
    begK L of k b = (decide (p < q) && decide (k = p)) ∧ endK L of k b = (decide (p < q) && decide (k = q)) ∧ bothK L of k b = (decide (p < q) && (decide (p < k) && decide (k < q))) := by
  have hb : blockK L b = decide (x.kind = 1) := by unfold blockK; rw [hx]
  have a1 := holdA_iff h hx (k := k)
  have a2 := holdA_iff h hx (k := k - 1)
  have l1 := cutI_le of (b : Int)
  have l2 := cutI_le of ((b : Int) + x.size)
  rw [heldK_nat of hx] at hv
  unfold begK endK bothK
  rw [hb]
  by_cases hk : x.kind = 1
  · rw [decide_eq_true hk]
    simp only [Bool.true_and]
    by_cases hc : cutI of (b : Int) < cutI of ((b : Int) + x.size)
    · rw [if_pos ⟨hk, hc⟩] at hv
      injection hv with e1 e2
      rw [decide_eq_true (show p < q by omega)]
      simp only [Bool.true_and]
      refine ⟨?_, ?_, ?_⟩
      · rw [Bool.eq_iff_iff, Bool.and_eq_true, Bool.not_eq_true', a1, decide_eq_true_eq]
        rcases hh : holdA L of b (k - 1) with _ | _
        · have hno : ¬ ((0 ≤ k - 1 ∧ k - 1 < (of.length : Int)) ∧ (cutI of (b : Int) : Int) ≤ k - 1 ∧ k - 1 < (cutI of ((b : Int) + x.size) : Int)) := fun h9 => by rw [a2.2 h9] at hh; cases hh
          constructor
          · rintro ⟨h2, _⟩
            rcases Int.lt_or_le p k with h3 | h3
            · omega
            · omega
          · intro h2; exact ⟨⟨by omega, by omega, by omega⟩, rfl⟩
        · have := a2.1 hh
          constructor
          · rintro ⟨_, h9⟩; cases h9
          · intro h2; omega
      · rw [Bool.eq_iff_iff, Bool.and_eq_true, Bool.not_eq_true', a2, decide_eq_true_eq]
        rcases hh : holdA L of b k with _ | _
        · have hno : ¬ ((0 ≤ k ∧ k < (of.length : Int)) ∧ (cutI of (b : Int) : Int) ≤ k ∧ k < (cutI of ((b : Int) + x.size) : Int)) := fun h9 => by rw [a1.2 h9] at hh; cases hh
          constructor
          · rintro ⟨h2, _⟩
            rcases Int.lt_or_le k q with h3 | h3
            · omega
            · omega
          · intro h2; exact ⟨⟨by omega, by omega, by omega⟩, rfl⟩
        · have := a1.1 hh
          constructor
          · rintro ⟨_, h9⟩; cases h9
          · intro h2; omega
      · rw [Bool.eq_iff_iff, Bool.and_eq_true, Bool.and_eq_true, a1, a2, decide_eq_true_eq, decide_eq_true_eq]
        constructor
        · rintro ⟨h2, h3⟩; omega
        · rintro ⟨h2, h3⟩; exact ⟨⟨by omega, by omega, by omega⟩, ⟨by omega, by omega, by omega⟩⟩
    · rw [if_neg (fun h9 => hc h9.2)] at hv
      injection hv with e1 e2
      subst e1 e2
      have n1 : holdA L of b k = false := by
        rcases hh : holdA L of b k with _ | _
        · rfl
        · have := a1.1 hh; omega
      have n2 : holdA L of b (k - 1) = false := by
        rcases hh : holdA L of b (k - 1) with _ | _
        · rfl
        · have := a2.1 hh; omega
      rw [n1, n2]
      simp
  · rw [decide_eq_false hk]
    rw [if_neg (fun h9 => hk h9.1)] at hv
    injection hv with e1 e2
    subst e1 e2
    simp
end Go.Proofs.Ytamakeogaipdiaa
/- The kin of a place stand within each other. Nothing of the program stands here. -/
namespace Go.Proofs.Ytamakeogaipdiaa
open Go
set_option linter.unusedVariables false
set_option linter.unusedSimpArgs false
theorem intsK_mem {p : Nat → Bool} {n : Nat} {z : Int} : z ∈ intsK p n ↔ ∃ b : Nat, z = (b : Int) ∧ b < n ∧ p b = true := by
  unfold intsK
  rw [List.mem_map]
  constructor
  · rintro ⟨b, hb, rfl⟩
    obtain ⟨h1, h2⟩ := List.mem_filter.1 hb
    exact ⟨b, rfl, List.mem_range.1 h1, h2⟩
  · rintro ⟨b, rfl, h1, h2⟩
    exact ⟨b, List.mem_filter.2 ⟨List.mem_range.2 h1, h2⟩, rfl⟩
theorem intsK_up (p : Nat → Bool) (n : Nat) : (intsK p n).Pairwise fun a b => a < b := by
  unfold intsK
  rw [List.pairwise_map]
  exact (List.pairwise_lt_range.filter p).imp fun {a b} h => by omega
/-- blocks that hold one node, the innermost first. -/
def DownC (L : List Nd) (c : Nat) (l : List Int) : Prop := (l.Pairwise fun a b => b < a) ∧ ∀ z ∈ l, ∃ b : Nat, z = (b : Int) ∧ holdP L b c = true
theorem down_chain {L : List Nd} {c : Nat} {l : List Int} (h : DownC L c l) {i : Nat} {a b : Int} (ha : l[i]? = some a) (hb : l[i + 1]? = some b) : a ≠ b ∧ holdsI L b a = true := by
  obtain ⟨hi, rfl⟩ := List.getElem?_eq_some_iff.1 ha
  obtain ⟨hj, rfl⟩ := List.getElem?_eq_some_iff.1 hb
  have h1 := List.pairwise_iff_getElem.1 h.1 i (i + 1) hi hj (by omega)
  obtain ⟨x, ex, hx⟩ := h.2 _ (List.getElem_mem hi)
  obtain ⟨y, ey, hy⟩ := h.2 _ (List.getElem_mem hj)
  rw [ex, ey] at h1 ⊢
  obtain ⟨u, hu, hcl, hu1, hu2⟩ := holdP_iff.1 hx
  obtain ⟨v, hv, _, hv1, hv2⟩ := holdP_iff.1 hy
  have hxl := (List.getElem?_eq_some_iff.1 hu).1
  have hyl := (List.getElem?_eq_some_iff.1 hv).1
  refine ⟨by omega, ?_⟩
  unfold holdsI
  rw [hasI_iff.2 ⟨by omega, by omega⟩, hasI_iff.2 ⟨by omega, by omega⟩, Int.toNat_natCast, Int.toNat_natCast, holdP_iff.2 ⟨v, hv, hxl, by omega, by omega⟩]
  rfl
theorem holdA_some {L : List Nd} {of : List Int} {k c : Int} (hc : ofAt of k = some c) (b : Nat) : holdA L of b k = holdP L b c.toNat := by unfold holdA; rw [hc]
theorem holdA_none {L : List Nd} {of : List Int} {k : Int} (hc : ofAt of k = none) (b : Nat) : holdA L of b k = false := by unfold holdA; rw [hc]
/-- a block that holds one of two atoms alone stands within one that holds both. -/
theorem one_both {L : List Nd} (hn : Nested L) {e b c d : Nat} (he : holdP L e c = true) (hb : holdP L b c = true) (hbd : holdP L b d = true) (hed : holdP L e d = false) (hbk : blockK L b = true) (hek : blockK L e = true) : b < e := by
  obtain ⟨x, hx, _, h1, h2⟩ := holdP_iff.1 he
  obtain ⟨y, hy, _, h3, h4⟩ := holdP_iff.1 hb
  obtain ⟨y', hy', hdl, h5, h6⟩ := holdP_iff.1 hbd
  rw [hy] at hy'
  injection hy' with hy'
  subst hy'
  have hne : ¬ (e ≤ d ∧ (d : Int) - e < x.size) := fun h9 => by rw [holdP_iff.2 ⟨x, hx, hdl, h9.1, h9.2⟩] at hed; cases hed
  rcases Nat.lt_or_ge b e with h7 | h7
  · exact h7
  · rcases Nat.lt_or_ge e b with h8 | h8
    · have hk1 : x.kind = 1 := by unfold blockK at hek; rw [hx] at hek; simpa using hek
      have := (hn b y hy).2.2.2 e x h8 hx hk1 (by omega)
      omega
    · obtain rfl : e = b := by omega
      rw [hx] at hy
      injection hy with hy
      subst hy
      exact (hne ⟨h5, h6⟩).elim
theorem ends_both {L : List Nd} {of : List Int} (h : KinOk L of) {k c : Int} (hc : ofAt of (k - 1) = some c) : DownC L c.toNat ((kinK L of k).ends ++ (kinK L of k).both) := by
  unfold kinK
  simp only
  refine ⟨List.pairwise_append.2 ⟨List.pairwise_reverse.2 ((intsK_up _ _).imp fun {a b} h9 => h9), List.pairwise_reverse.2 ((intsK_up _ _).imp fun {a b} h9 => h9), fun e he b hb => ?_⟩, fun z hz => ?_⟩
  · obtain ⟨e', rfl, hel, he'⟩ := intsK_mem.1 (List.mem_reverse.1 he)
    obtain ⟨b', rfl, hbl, hb'⟩ := intsK_mem.1 (List.mem_reverse.1 hb)
    unfold endK at he'
    unfold bothK at hb'
    simp only [Bool.and_eq_true, Bool.not_eq_true'] at he' hb'
    obtain ⟨ek, e1, e2⟩ := he'
    obtain ⟨bk, b1, b2⟩ := hb'
    cases hd : ofAt of k with
    | none => rw [holdA_none hd] at b2; cases b2
    | some d =>
      rw [holdA_some hc] at e1 b1
      rw [holdA_some hd] at e2 b2
      have := one_both h.doc.2.nested e1 b1 b2 e2 bk ek
      omega
  · rcases List.mem_append.1 hz with hz | hz
    · obtain ⟨b, rfl, _, hb⟩ := intsK_mem.1 (List.mem_reverse.1 hz)
      unfold endK at hb
      simp only [Bool.and_eq_true] at hb
      exact ⟨b, rfl, by rw [← holdA_some hc]; exact hb.2.1⟩
    · obtain ⟨b, rfl, _, hb⟩ := intsK_mem.1 (List.mem_reverse.1 hz)
      unfold bothK at hb
      simp only [Bool.and_eq_true] at hb
      exact ⟨b, rfl, by rw [← holdA_some hc]; exact hb.2.1⟩
theorem begs_both {L : List Nd} {of : List Int} (h : KinOk L of) {k c : Int} (hc : ofAt of k = some c) : DownC L c.toNat ((kinK L of k).begs.reverse ++ (kinK L of k).both) := by
  unfold kinK
  simp only
  refine ⟨List.pairwise_append.2 ⟨List.pairwise_reverse.2 ((intsK_up _ _).imp fun {a b} h9 => h9), List.pairwise_reverse.2 ((intsK_up _ _).imp fun {a b} h9 => h9), fun e he b hb => ?_⟩, fun z hz => ?_⟩
  · obtain ⟨e', rfl, hel, he'⟩ := intsK_mem.1 (List.mem_reverse.1 he)
    obtain ⟨b', rfl, hbl, hb'⟩ := intsK_mem.1 (List.mem_reverse.1 hb)
    unfold begK at he'
    unfold bothK at hb'
    simp only [Bool.and_eq_true, Bool.not_eq_true'] at he' hb'
    obtain ⟨ek, e1, e2⟩ := he'
    obtain ⟨bk, b1, b2⟩ := hb'
    cases hd : ofAt of (k - 1) with
    | none => rw [holdA_none hd] at b1; cases b1
    | some d =>
      rw [holdA_some hc] at e1 b2
      rw [holdA_some hd] at e2 b1
      have := one_both h.doc.2.nested e1 b2 b1 e2 bk ek
      omega
  · rcases List.mem_append.1 hz with hz | hz
    · obtain ⟨b, rfl, _, hb⟩ := intsK_mem.1 (List.mem_reverse.1 hz)
      unfold begK at hb
      simp only [Bool.and_eq_true] at hb
      exact ⟨b, rfl, by rw [← holdA_some hc]; exact hb.2.1⟩
    · obtain ⟨b, rfl, _, hb⟩ := intsK_mem.1 (List.mem_reverse.1 hz)
      unfold bothK at hb
      simp only [Bool.and_eq_true] at hb
      exact ⟨b, rfl, by rw [← holdA_some hc]; exact hb.2.2⟩
theorem intsK_nil {p : Nat → Bool} {n : Nat} (h : ∀ b, p b = false) : intsK p n = [] := by
  unfold intsK
  rw [List.map_eq_nil_iff, List.filter_eq_nil_iff]
  intro b _
  rw [h b]
  decide
/-- ahead of the first atom, and behind the last one. -/
theorem no_ends {L : List Nd} {of : List Int} {k : Int} (hc : ofAt of (k - 1) = none) : (kinK L of k).ends = [] ∧ (kinK L of k).both = [] := by
  unfold kinK
  simp only
  rw [intsK_nil (p := endK L of k) (fun b => by unfold endK; rw [holdA_none hc]; simp), intsK_nil (p := bothK L of k) (fun b => by unfold bothK; rw [holdA_none hc]; simp)]
  exact ⟨rfl, rfl⟩
theorem no_begs {L : List Nd} {of : List Int} {k : Int} (hc : ofAt of k = none) : (kinK L of k).begs = [] ∧ (kinK L of k).both = [] := by
  unfold kinK
  simp only
  rw [intsK_nil (p := begK L of k) (fun b => by unfold begK; rw [holdA_none hc]; simp), intsK_nil (p := bothK L of k) (fun b => by unfold bothK; rw [holdA_none hc]; simp)]
  exact ⟨rfl, rfl⟩
/-- lines of one text have no kin but what holds both. -/
theorem kin_same {L : List Nd} {of : List Int} {k c : Int} (h1 : ofAt of (k - 1) = some c) (h2 : ofAt of k = some c) : (kinK L of k).ends = [] ∧ (kinK L of k).begs = [] ∧ (kinK L of k).text = c := by
  unfold kinK textK
  simp only
  rw [h1, h2, intsK_nil (p := endK L of k) (fun b => by unfold endK; rw [holdA_some h1, holdA_some h2]; simp), intsK_nil (p := begK L of k) (fun b => by unfold begK; rw [holdA_some h1, holdA_some h2]; simp)]
  simp
theorem ofAt_pos {L : List Nd} {of : List Int} (h : KinOk L of) {k c : Int} (hc : ofAt of k = some c) : 0 ≤ c ∧ 0 ≤ k ∧ k < (of.length : Int) := by
  unfold ofAt at hc
  split at hc
  · obtain ⟨j, _, rfl, _⟩ := h.leaf _ _ hc
    have := (List.getElem?_eq_some_iff.1 hc).1
    omega
  · cases hc
theorem kin_other {L : List Nd} {of : List Int} {k : Int} (hno : ∀ c, ¬ (ofAt of (k - 1) = some c ∧ ofAt of k = some c)) : (kinK L of k).text = -1 := by
  unfold kinK textK
  simp only
  cases h1 : ofAt of k with
  | none => rfl
  | some a =>
    cases h2 : ofAt of (k - 1) with
    | none => rfl
    | some b =>
      simp only
      rw [if_neg]
      rintro rfl
      exact hno a ⟨h2, h1⟩
theorem range_one {b : Nat} : ∀ {n : Nat}, b < n → ((List.range n).filter fun a => decide (a = b)).length = 1
  | 0, h => by omega
  | n + 1, h => by
    rw [List.range_succ, List.filter_append, List.length_append]
    rcases Nat.lt_or_ge b n with h1 | h1
    · rw [range_one h1, List.filter_cons_of_neg (by simp; omega)]
      rfl
    · obtain rfl : b = n := by omega
      rw [List.filter_cons_of_pos (by simp), List.filter_eq_nil_iff.2 (fun a ha => by have := List.mem_range.1 ha; simp; omega)]
      rfl
/-- how often a number stands in a row of rising numbers. -/
theorem among_ints (p : Nat → Bool) (n b : Nat) (hb : b < n) : ((intsK p n).filter fun z => decide (z = (b : Int))).length = if p b then 1 else 0 := by
  unfold intsK
  rw [List.filter_map, List.length_map, List.filter_filter]
  have e : (List.range n).filter (fun a => decide (((a : Nat) : Int) = (b : Int)) && p a) = (List.range n).filter (fun a => decide (a = b) && p b) := by
    refine List.filter_congr fun a _ => ?_
    by_cases h : a = b
    · rw [h]; simp
    · rw [decide_eq_false (by omega), decide_eq_false h]
      rfl
  show ((List.range n).filter (fun a => decide (((a : Nat) : Int) = (b : Int)) && p a)).length = _
  rw [e]
  cases hp : p b with
  | false => simp
  | true =>
    simp only [Bool.and_true, if_true]
    exact range_one hb
end Go.Proofs.Ytamakeogaipdiaa
/- Which atoms a node holds, and where they lie. (Split off KinRef.) -/
namespace Go.Proofs.Ytamakeogaipdiaa
open Go.RowKit
set_option linter.unusedVariables false
set_option linter.unusedSimpArgs false
theorem holdA_out {L : List Nd} {of : List Int} {b : Nat} {k : Int} (h : ¬ (0 ≤ k ∧ k < (of.length : Int))) : holdA L of b k = false := by
  unfold holdA ofAt
  split
  · rename_i a ha
    split at ha
    · have := (List.getElem?_eq_some_iff.1 ha).1; omega
    · cases ha
  · rfl
theorem holdA_at {L : List Nd} {of : List Int} {b i j : Nat} (ha : of[i]? = some (j : Int)) : holdA L of b (i : Int) = holdP L b j := by
  unfold holdA
  rw [ofAt_nat, ha]
  simp
/-- what lies at a place of a row of atoms' nodes. -/
theorem of_cell {L : List Nd} {of : List Int} (h : KinOk L of) {B : Option Addr} {m i : Nat} {w : World} (hI : Ints w B m of) (hi : i < m) :
    ∃ b1 o1 j x, B = some ⟨b1, o1, none⟩ ∧ w.cell? ⟨b1, o1 + i, none⟩ = some (.int .i64 ((j : Nat) : Int)) ∧ of[i]? = some (j : Int) ∧ L[j]? = some x ∧ (x.kind = 2 ∨ x.kind = 3) := by
  have hl := hI.1
  obtain ⟨b1, o1, hB, c1⟩ := hI.at_ hi
  have ha : of[i]? = some (of[i]'(by omega)) := List.getElem?_eq_getElem _
  obtain ⟨j, x, e, hx, hk⟩ := h.leaf _ _ ha
  rw [ha] at c1
  refine ⟨b1, o1, j, x, hB, ?_, by rw [ha, e], hx, hk⟩
  rw [← e]; exact c1
end Go.Proofs.Ytamakeogaipdiaa
/- Whether a row of atoms' nodes may be, atom by atom and node by node. Nothing of the program stands here. (Split off KinRefC.) -/
namespace Go.Proofs.Ytamakeogaipdiaa
open Go.RowKit
set_option linter.unusedVariables false
set_option linter.unusedSimpArgs false
theorem chk_at {L : List Nd} {of : List Int} {k : Nat} (hk : k < of.length) (h : atK L of k = false) : chkK L of = 4 := by
  unfold chkK kinB
  rw [if_neg]
  rw [Bool.and_eq_true, Bool.and_eq_true, List.all_eq_true, List.all_eq_true]
  rintro ⟨_, h1, _⟩
  have := h1 k (List.mem_range.2 hk)
  rw [h] at this; cases this
theorem chk_many {L : List Nd} {of : List Int} {k : Nat} (hk : k < L.length) (h : manyK L of k = false) : chkK L of = 4 := by
  unfold chkK kinB
  rw [if_neg]
  rw [Bool.and_eq_true, Bool.and_eq_true, List.all_eq_true, List.all_eq_true]
  rintro ⟨_, _, h1⟩
  have := h1 k (List.mem_range.2 hk)
  rw [h] at this; cases this
theorem chk_doc {L : List Nd} {of : List Int} (h : docB L = false) : chkK L of = 4 := by
  unfold chkK kinB
  rw [h, if_neg (by simp)]
theorem chk_good {L : List Nd} {of : List Int} (hd : docB L = true) (h1 : ∀ j, j < of.length → atK L of j = true) (h2 : ∀ j, j < L.length → manyK L of j = true) : chkK L of = 0 := by
  unfold chkK kinB
  rw [hd, if_pos]
  rw [Bool.and_eq_true, Bool.and_eq_true, List.all_eq_true, List.all_eq_true]
  exact ⟨rfl, fun j hj => h1 j (List.mem_range.1 hj), fun j hj => h2 j (List.mem_range.1 hj)⟩
theorem leafK_neg {L : List Nd} {a : Int} (h : a < 0) : leafK L a = false := by unfold leafK; rw [decide_eq_false (by omega)]; rfl
theorem leafK_far {L : List Nd} {a : Int} (h : (L.length : Int) ≤ a) : leafK L a = false := by
  unfold leafK
  rw [List.getElem?_eq_none_iff.2 (by omega)]
  simp
theorem leafK_get {L : List Nd} {j : Nat} {x : Nd} (h : L[j]? = some x) : leafK L (j : Int) = (decide (x.kind = 2) || decide (x.kind = 3)) := by
  unfold leafK
  rw [decide_eq_true (by omega), Int.toNat_natCast, h]
  rfl
theorem atK_no {L : List Nd} {of : List Int} {k : Nat} {a : Int} (ha : of[k]? = some a) (h : leafK L a = false) : atK L of k = false := by
  unfold atK
  rw [ha]
  simp only
  rw [h]
  rfl
theorem atK_zero {L : List Nd} {of : List Int} {a : Int} (ha : of[0]? = some a) : atK L of 0 = leafK L a := by
  unfold atK
  rw [ha]
  simp only
  exact Bool.and_true _
theorem atK_succ {L : List Nd} {of : List Int} {k : Nat} {a b : Int} (ha : of[k + 1]? = some a) (hb : of[k]? = some b) : atK L of (k + 1) = (leafK L a && decide (b ≤ a)) := by
  unfold atK
  rw [ha]
  simp only
  rw [hb]
theorem cnt_zero (of : List Int) (a : Int) : cntK (of.take 0) a = 0 := rfl
theorem cnt_succ {of : List Int} {k : Nat} {b : Int} (hb : of[k]? = some b) (a : Int) : cntK (of.take (k + 1)) a = cntK (of.take k) a + if b = a then 1 else 0 := by
  unfold cntK
  rw [List.take_add_one, hb, List.filter_append, List.length_append]
  congr 1
  by_cases h : b = a
  · rw [if_pos h]; simp [h]
  · rw [if_neg h]; simp [h]
theorem cnt_le (of : List Int) (a : Int) (k : Nat) : cntK (of.take k) a ≤ k := by
  unfold cntK
  refine Nat.le_trans (List.length_filter_le _ _) ?_
  rw [List.length_take]; omega
theorem manyK_of {L : List Nd} {of : List Int} {i : Nat} {x : Nd} (hx : L[i]? = some x) : manyK L of i = ((if x.kind = 2 then decide (1 ≤ cntK of (i : Int)) && decide (cntK of (i : Int) ≤ x.words.length) else true) && (if x.kind = 3 then decide (cntK of (i : Int) = 1) else true)) := by
  unfold manyK
  rw [hx]
end Go.Proofs.Ytamakeogaipdiaa
/- Whether a row of atoms' nodes may be, run by run. Nothing of the program stands here. -/
namespace Go.Proofs.Ytamakeogaipdiaa
open Go
set_option linter.unusedVariables false
set_option linter.unusedSimpArgs false
/-- c atoms from k on, no more, are of one node. -/
def RunAt (of : List Int) (k : Nat) (a : Int) (c : Nat) : Prop := (∀ i, i < c → of[k + i]? = some a) ∧ of[k + c]? ≠ some a
theorem RunAt.le {of : List Int} {k c : Nat} {a : Int} (h : RunAt of k a c) (hk : k ≤ of.length) : k + c ≤ of.length := by
  rcases Nat.eq_zero_or_pos c with rfl | hc
  · omega
  · have := (List.getElem?_eq_some_iff.1 (h.1 (c - 1) (by omega))).1
    omega
theorem cnt_run {of : List Int} {k : Nat} {a : Int} (h0 : ∀ i, i < k → of[i]? ≠ some a) (hk : k ≤ of.length) : ∀ {c : Nat}, (∀ i, i < c → of[k + i]? = some a) → cntK (of.take (k + c)) a = c := by
  have base : ∀ j, j ≤ k → cntK (of.take j) a = 0 := by
    intro j
    induction j with
    | zero => intro _; rfl
    | succ j ih =>
      intro hj
      have hb : of[j]? = some (of[j]'(by omega)) := List.getElem?_eq_getElem _
      rw [cnt_succ hb, ih (by omega), if_neg]
      intro e
      exact h0 j (by omega) (by rw [hb, e])
  intro c
  induction c with
  | zero => intro _; exact base k (Nat.le_refl _)
  | succ c ih =>
    intro h
    rw [show k + (c + 1) = (k + c) + 1 from rfl, cnt_succ (h c (by omega)), ih (fun i hi => h i (by omega)), if_pos rfl]
theorem cnt_same {of : List Int} {k : Nat} {a : Int} : ∀ {c : Nat}, (∀ i, i < c → of[k + i]? ≠ some a) → cntK (of.take (k + c)) a = cntK (of.take k) a := by
  intro c
  induction c with
  | zero => intro _; rfl
  | succ c ih =>
    intro h
    rcases Nat.lt_or_ge (k + c) of.length with hl | hl
    · have hb : of[k + c]? = some (of[k + c]'hl) := List.getElem?_eq_getElem _
      rw [show k + (c + 1) = (k + c) + 1 from rfl, cnt_succ hb, ih (fun i hi => h i (by omega)), if_neg]
      · rfl
      · intro e
        exact h c (by omega) (by rw [hb, e])
    · rw [List.take_of_length_le (by omega), ← ih (fun i hi => h i (by omega)), List.take_of_length_le (by omega)]
def okM (x : Nd) (c : Nat) : Bool := (if x.kind = 2 then decide (1 ≤ c) && decide (c ≤ x.words.length) else true) && (if x.kind = 3 then decide (c = 1) else true)
/-- how many atoms a node has at least, and at most. -/
def leastM (x : Nd) : Nat := if x.kind = 2 ∨ x.kind = 3 then 1 else 0
def mostM (x : Nd) : Nat := if x.kind = 2 then x.words.length else if x.kind = 3 then 1 else 0
theorem okM_of {x : Nd} {c : Nat} (h1 : leastM x ≤ c) (h2 : c ≤ mostM x) : okM x c = true := by
  unfold okM
  unfold leastM at h1
  unfold mostM at h2
  by_cases k2 : x.kind = 2
  · rw [if_pos (.inl k2)] at h1
    rw [if_pos k2] at h2
    have k3 : ¬ x.kind = 3 := by omega
    rw [if_pos k2, if_neg k3]
    simp; omega
  · by_cases k3 : x.kind = 3
    · rw [if_pos (.inr k3)] at h1
      rw [if_neg k2, if_pos k3] at h2
      rw [if_neg k2, if_pos k3]
      simp; omega
    · rw [if_neg k2, if_neg k3]; rfl
theorem most_pos {x : Nd} {c : Nat} (h : c ≤ mostM x) (hc : 0 < c) : x.kind = 2 ∨ x.kind = 3 := by
  unfold mostM at h
  by_cases k2 : x.kind = 2
  · exact .inl k2
  · rw [if_neg k2] at h
    by_cases k3 : x.kind = 3
    · exact .inr k3
    · rw [if_neg k3] at h; omega
/-- the first nodes, and the first atoms, have been gone through. -/
structure PM (L : List Nd) (of : List Int) (q k : Nat) : Prop where
  le : k ≤ of.length
  leaf : ∀ (i : Nat) (a : Int), i < k → of[i]? = some a → ∃ (j : Nat) (x : Nd), a = (j : Int) ∧ j < q ∧ L[j]? = some x ∧ (x.kind = 2 ∨ x.kind = 3)
  rise : ∀ (i : Nat) (a b : Int), i + 1 < k → of[i]? = some b → of[i + 1]? = some a → b ≤ a
  many : ∀ (j : Nat) (x : Nd), j < q → L[j]? = some x → okM x (cntK (of.take k) (j : Int)) = true
  cut : kinB L of = true → k = cutI of (q : Int)
theorem PM.start {L : List Nd} {of : List Int} : PM L of 0 0 := by
  refine ⟨Nat.zero_le _, fun i a hi => by omega, fun i a b hi => by omega, fun j x hj => by omega, fun hk => ?_⟩
  have h := kin_ok hk
  rcases Nat.eq_zero_or_pos (cutI of ((0 : Nat) : Int)) with h0 | h0
  · exact h0.symm
  · exfalso
    have hl := cutI_le of ((0 : Nat) : Int)
    have ha : of[0]? = some (of[0]'(by omega)) := List.getElem?_eq_getElem _
    obtain ⟨j, x, e, _⟩ := h.leaf _ _ ha
    have := (cutI_lt h.rise ((0 : Nat) : Int) ha).1 h0
    omega
theorem PM.before {L : List Nd} {of : List Int} {q k : Nat} (h : PM L of q k) : ∀ i, i < k → of[i]? ≠ some (q : Int) := fun i hi e => by
  obtain ⟨j, x, e1, hj, _⟩ := h.leaf i _ hi e
  omega
theorem PM.cut_next {L : List Nd} {of : List Int} {q k c : Nat} (h : PM L of q k) (hr : RunAt of k (q : Int) c) (hk : kinB L of = true) : k + c = cutI of ((q + 1 : Nat) : Int) := by
  have ho := kin_ok hk
  have hc := h.cut hk
  have hle := hr.le h.le
  have hcl := cutI_le of ((q + 1 : Nat) : Int)
  rcases Nat.lt_trichotomy (k + c) (cutI of ((q + 1 : Nat) : Int)) with h1 | h1 | h1
  · exfalso
    have ha : of[k + c]? = some (of[k + c]'(by omega)) := List.getElem?_eq_getElem _
    have h2 := (cutI_lt ho.rise ((q + 1 : Nat) : Int) ha).1 h1
    have h3 : ¬ (k + c < cutI of (q : Int)) := by omega
    have h4 : ¬ (of[k + c]'(by omega) < (q : Int)) := fun h9 => h3 ((cutI_lt ho.rise (q : Int) ha).2 h9)
    exact hr.2 (by rw [ha]; congr 1; omega)
  · exact h1
  · exfalso
    have ha : of[k + c - 1]? = some (of[k + c - 1]'(by omega)) := List.getElem?_eq_getElem _
    have h2 : ¬ (of[k + c - 1]'(by omega) < ((q + 1 : Nat) : Int)) := fun h9 => by have := (cutI_lt ho.rise ((q + 1 : Nat) : Int) ha).2 h9; omega
    rcases Nat.eq_zero_or_pos c with rfl | hc0
    · have h3 := (cutI_lt ho.rise (q : Int) ha).1 (by omega)
      omega
    · have h3 := hr.1 (c - 1) (by omega)
      rw [show k + (c - 1) = k + c - 1 by omega, ha] at h3
      injection h3 with h3
      omega
theorem PM.next {L : List Nd} {of : List Int} {q k c : Nat} {x : Nd} (h : PM L of q k) (hr : RunAt of k (q : Int) c) (hx : L[q]? = some x) (h1 : leastM x ≤ c) (h2 : c ≤ mostM x) : PM L of (q + 1) (k + c) := by
  refine ⟨hr.le h.le, fun i a hi ha => ?_, fun i a b hi hb ha => ?_, fun j y hj hy => ?_, fun hk => h.cut_next hr hk⟩
  · rcases Nat.lt_or_ge i k with h3 | h3
    · obtain ⟨j, y, e, hj, hy⟩ := h.leaf i a h3 ha
      exact ⟨j, y, e, by omega, hy⟩
    · have h4 := hr.1 (i - k) (by omega)
      rw [show k + (i - k) = i by omega, ha] at h4
      injection h4 with h4
      exact ⟨q, x, h4, by omega, hx, most_pos h2 (by omega)⟩
  · rcases Nat.lt_or_ge (i + 1) k with h3 | h3
    · exact h.rise i a b h3 hb ha
    · have h4 := hr.1 (i + 1 - k) (by omega)
      rw [show k + (i + 1 - k) = i + 1 by omega, ha] at h4
      injection h4 with h4
      rcases Nat.lt_or_ge i k with h5 | h5
      · obtain ⟨j, y, e, hj, _⟩ := h.leaf i b h5 hb
        omega
      · have h6 := hr.1 (i - k) (by omega)
        rw [show k + (i - k) = i by omega, hb] at h6
        injection h6 with h6
        omega
  · rcases Nat.lt_or_ge j q with h3 | h3
    · rw [cnt_same (fun i hi e => by have := hr.1 i hi; rw [e] at this; injection this with this; omega)]
      exact h.many j y h3 hy
    · obtain rfl : j = q := by omega
      rw [hx] at hy
      injection hy with hy
      subst hy
      rw [cnt_run h.before h.le hr.1]
      exact okM_of h1 h2
theorem PM.bad {L : List Nd} {of : List Int} {q k c : Nat} {x : Nd} (h : PM L of q k) (hr : RunAt of k (q : Int) c) (hx : L[q]? = some x) (h1 : ¬ (leastM x ≤ c ∧ c ≤ mostM x)) : kinB L of = false := by
  rcases hk : kinB L of with _ | _
  · rfl
  · exfalso
    have ho := kin_ok hk
    have hc := h.cut_next hr hk
    have hle := hr.le h.le
    have hql := (List.getElem?_eq_some_iff.1 hx).1
    have hcn : cntK of (q : Int) = c := by
      have e1 := cnt_run h.before h.le hr.1
      have e2 := cnt_same (of := of) (k := k + c) (a := (q : Int)) (c := of.length - (k + c)) (fun i hi e => by
        have h2 : ¬ (k + c + i < cutI of ((q + 1 : Nat) : Int)) := by omega
        exact h2 ((cutI_lt ho.rise ((q + 1 : Nat) : Int) e).2 (by omega)))
      rw [← e1, ← e2, List.take_of_length_le (by omega)]
    have hm : manyK L of q = true := by
      unfold kinB at hk
      rw [Bool.and_eq_true, Bool.and_eq_true, List.all_eq_true, List.all_eq_true] at hk
      exact hk.2.2 q (List.mem_range.2 hql)
    rw [manyK_of hx, hcn] at hm
    refine h1 ?_
    unfold leastM mostM
    by_cases k2 : x.kind = 2
    · have k3 : ¬ x.kind = 3 := by omega
      rw [if_pos k2, if_neg k3] at hm
      simp at hm
      rw [if_pos (.inl k2), if_pos k2]
      exact hm
    · by_cases k3 : x.kind = 3
      · rw [if_neg k2, if_pos k3] at hm
        simp at hm
        rw [if_pos (.inr k3), if_neg k2, if_pos k3]
        omega
      · rw [if_neg (by omega), if_neg k2, if_neg k3]
        rcases Nat.eq_zero_or_pos c with h0 | h0
        · omega
        · obtain ⟨j, y, e, hy, hk9⟩ := ho.leaf _ _ (hr.1 0 h0)
          obtain rfl : q = j := by omega
          rw [hx] at hy
          injection hy with hy
          subst hy
          omega
theorem PM.good {L : List Nd} {of : List Int} (hd : docB L = true) (h : PM L of L.length of.length) : kinB L of = true := by
  unfold kinB
  rw [hd, Bool.true_and, Bool.and_eq_true, List.all_eq_true, List.all_eq_true]
  refine ⟨fun j hj => ?_, fun j hj => ?_⟩
  · have hj := List.mem_range.1 hj
    have ha : of[j]? = some (of[j]'hj) := List.getElem?_eq_getElem _
    obtain ⟨i, x, e, _, hx, hk⟩ := h.leaf j _ hj ha
    have hlf : leafK L (of[j]'hj) = true := by rw [e, leafK_get hx]; simpa using hk
    cases j with
    | zero => rw [atK_zero ha, hlf]
    | succ j =>
      have hb : of[j]? = some (of[j]'(by omega)) := List.getElem?_eq_getElem _
      rw [atK_succ ha hb, hlf, decide_eq_true (h.rise j _ _ hj hb ha)]
      rfl
  · have hj := List.mem_range.1 hj
    have hx : L[j]? = some (L[j]'hj) := List.getElem?_eq_getElem _
    have := h.many j _ hj hx
    rw [List.take_of_length_le (Nat.le_refl _)] at this
    rw [manyK_of hx]
    exact this
theorem PM.short {L : List Nd} {of : List Int} {k : Nat} (h : PM L of L.length k) (hk : k ≠ of.length) : kinB L of = false := by
  rcases hb : kinB L of with _ | _
  · rfl
  · exfalso
    have ho := kin_ok hb
    have hc := h.cut hb
    have hle := h.le
    have ha : of[k]? = some (of[k]'(by omega)) := List.getElem?_eq_getElem _
    obtain ⟨j, x, e, hx, _⟩ := ho.leaf _ _ ha
    have hjl := (List.getElem?_eq_some_iff.1 hx).1
    have := (cutI_lt ho.rise (L.length : Int) ha).2 (by omega)
    omega
end Go.Proofs.Ytamakeogaipdiaa
