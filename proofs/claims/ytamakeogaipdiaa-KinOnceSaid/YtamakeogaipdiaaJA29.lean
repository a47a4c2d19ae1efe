import Derived.Test.YtamakeogaipdiaaJA27
import Derived.Test.YtamakeogaipdiaaJA28
import Derived.Test.YtamakeogaipdiaaJA21
import Derived.Test.YtamakeogaipdiaaJA26
import Derived.Test.YtamakeogaipdiaaJA03
import Derived.Test.YtamakeogaipdiaaJA13
import Derived.Deep.QuietTactic
import Derived.BigQuiet
/- The program's package kin: around, as At calls it: the blocks that end, that begin, that hold both. -/
namespace Go.Proofs.Ytamakeogaipdiaa
open Go.RowKit
set_option linter.unusedVariables false
set_option linter.unusedSimpArgs false
theorem up_rev (L : List Nd) (b : Nat) : ∀ i, backTo L b i = ((List.range i).filter fun a => holdP L a b).reverse
  | 0 => rfl
  | i + 1 => by
    rw [up_succ, List.range_succ, List.filter_append, List.reverse_append, up_rev L b i]
    rcases h : holdP L i b with _ | _
    · simp [h]
    · simp [h]
theorem range_cut (q : Nat → Bool) {j : Nat} : ∀ {n : Nat}, j ≤ n → (List.range n).filter (fun b => decide (b < j) && q b) = (List.range j).filter q
  | 0, h => by obtain rfl : j = 0 := by omega
               rfl
  | n + 1, h => by
    rcases Nat.lt_or_ge j (n + 1) with h1 | h1
    · rw [List.range_succ, List.filter_append, range_cut q (n := n) (by omega), List.filter_cons_of_neg (by simp; omega)]
      simp
    · obtain rfl : j = n + 1 := by omega
      refine List.filter_congr fun b hb => ?_
      rw [decide_eq_true (List.mem_range.1 hb), Bool.true_and]
theorem intsK_same {p q : Nat → Bool} {n : Nat} (h : ∀ b, b < n → p b = q b) : intsK p n = intsK q n := by
  unfold intsK
  rw [List.filter_congr fun b hb => h b (List.mem_range.1 hb)]
/-- the blocks above a node, of which p says yes. -/
theorem above_ints {L : List Nd} {j : Nat} (hj : j < L.length) (p : Nat → Bool) : ((aboveP L j).filter p).map (fun b : Nat => (b : Int)) = (intsK (fun b => decide (b < j) && (holdP L b j && p b)) L.length).reverse := by
  unfold aboveP
  rw [if_pos hj, up_rev, List.filter_reverse, List.map_reverse, List.filter_filter]
  unfold intsK
  rw [range_cut _ (Nat.le_of_lt hj)]
  congr 3
  funext b
  exact Bool.and_comm _ _
/-- what holds a leaf, and is not it, is a block. -/
theorem block_leaf {L : List Nd} (hn : Nested L) {j b : Nat} {x : Nd} (hx : L[j]? = some x) (hk : x.kind = 2 ∨ x.kind = 3) : (blockK L b && holdP L b j) = (decide (b < j) && holdP L b j) := by
  rcases hh : holdP L b j with _ | _
  · rw [Bool.and_false, Bool.and_false]
  · rw [Bool.and_true, Bool.and_true]
    obtain ⟨y, hy, _, h1, h2⟩ := holdP_iff.1 hh
    rcases Nat.lt_or_ge b j with h3 | h3
    · rw [decide_eq_true h3]
      unfold blockK
      rw [hy]
      have := (hn b y hy).2.2.1
      by_cases h4 : y.kind = 1
      · simp [h4]
      · have := this h4; omega
    · obtain rfl : b = j := by omega
      rw [decide_eq_false (by omega)]
      unfold blockK
      rw [hx]
      have : ¬ x.kind = 1 := by omega
      simp [this]
section
variable {L : List Nd} {of : List Int} {A B : Option Addr} {n c m d k0 : Nat} {w : World}
theorem ends_ints (h : KinOk L of) {i j : Nat} (hk : k0 = i + 1) (ha : of[i]? = some (j : Int)) : ((aboveP L j).filter fun b => !holdA L of b (k0 : Int)).map (fun b : Nat => (b : Int)) = (kinK L of (k0 : Int)).ends := by
  obtain ⟨j', x, e, hx, hkd⟩ := h.leaf _ _ ha
  obtain rfl : j = j' := by omega
  rw [above_ints (List.getElem?_eq_some_iff.1 hx).1]
  unfold kinK
  simp only
  congr 1
  refine intsK_same fun b _ => ?_
  unfold endK
  rw [show (k0 : Int) - 1 = (i : Int) by omega, holdA_at ha, ← Bool.and_assoc, ← Bool.and_assoc, block_leaf h.doc.2.nested hx hkd]
theorem both_ints (h : KinOk L of) {i j : Nat} (hk : k0 = i + 1) (ha : of[i]? = some (j : Int)) : ((aboveP L j).filter fun b => holdA L of b (k0 : Int)).map (fun b : Nat => (b : Int)) = (kinK L of (k0 : Int)).both := by
  obtain ⟨j', x, e, hx, hkd⟩ := h.leaf _ _ ha
  obtain rfl : j = j' := by omega
  rw [above_ints (List.getElem?_eq_some_iff.1 hx).1]
  unfold kinK
  simp only
  congr 1
  refine intsK_same fun b _ => ?_
  unfold bothK
  rw [show (k0 : Int) - 1 = (i : Int) by omega, holdA_at ha, ← Bool.and_assoc, ← Bool.and_assoc, block_leaf h.doc.2.nested hx hkd]
theorem begs_ints (h : KinOk L of) {j : Nat} (ha : of[k0]? = some (j : Int)) : ((aboveP L j).filter fun b => !holdA L of b ((k0 : Int) - 1)).map (fun b : Nat => (b : Int)) = (kinK L of (k0 : Int)).begs.reverse := by
  obtain ⟨j', x, e, hx, hkd⟩ := h.leaf _ _ ha
  obtain rfl : j = j' := by omega
  rw [above_ints (List.getElem?_eq_some_iff.1 hx).1]
  unfold kinK
  simp only
  congr 1
  refine intsK_same fun b _ => ?_
  unfold begK
  rw [holdA_at ha, ← Bool.and_assoc, ← Bool.and_assoc, block_leaf h.doc.2.nested hx hkd]
variable {p q r : Nat}
theorem kends_to (h : KinOk L of) (hk : k0 ≤ m) (hP : PreV L w A n) (hI : Ints w B m of) (hm : m ≤ 1000000) (hc : Clo16 w A n c B m d (k0 : Int) p q)
    (hr : Box w r [.func (.func 26) #[] #[.pointer (some ⟨p, 0, none⟩), .pointer (some ⟨q, 0, none⟩)]]) :
    Calls Try.prog 27 #[.agg #[.slice A n c, .slice B m d], .int .i64 ((k0 : Int) - 1), .func (.func 46) #[] #[.pointer (some ⟨r, 0, none⟩)]] w (IntsOut w (kinK L of (k0 : Int)).ends) := by
  have hl := hI.1
  cases k0 with
  | zero =>
    rw [(no_ends (k := ((0 : Nat) : Int)) (by unfold ofAt; rw [if_neg (by omega)])).1]
    exact karound0_to _ rfl (by omega) hI.2.1 w
  | succ i =>
    rw [show ((i + 1 : Nat) : Int) - 1 = (i : Int) by omega]
    obtain ⟨_, _, j, x, _, _, ha, _, _⟩ := of_cell h hI (show i < m by omega)
    rw [← ends_ints h rfl ha]
    exact karoundN_to h ha hP hI hm (fun V b hV hb => knotb_to h rfl (hP.1.below hV) (hI.below hV rfl) hP.2 hb (hc.on hV) (hr.below hV))
theorem kboth_to (h : KinOk L of) (hk : k0 ≤ m) (hP : PreV L w A n) (hI : Ints w B m of) (hm : m ≤ 1000000) (hc : Clo16 w A n c B m d (k0 : Int) p q) :
    Calls Try.prog 27 #[.agg #[.slice A n c, .slice B m d], .int .i64 ((k0 : Int) - 1), .func (.func 26) #[] #[.pointer (some ⟨p, 0, none⟩), .pointer (some ⟨q, 0, none⟩)]] w (IntsOut w (kinK L of (k0 : Int)).both) := by
  have hl := hI.1
  cases k0 with
  | zero =>
    rw [(no_ends (k := ((0 : Nat) : Int)) (by unfold ofAt; rw [if_neg (by omega)])).2]
    exact karound0_to _ rfl (by omega) hI.2.1 w
  | succ i =>
    rw [show ((i + 1 : Nat) : Int) - 1 = (i : Int) by omega]
    obtain ⟨_, _, j, x, _, _, ha, _, _⟩ := of_cell h hI (show i < m by omega)
    rw [← both_ints h rfl ha]
    exact karoundB_to h ha hP hI hm (fun V b hV hb => kbehind_to h rfl (hP.1.below hV) (hI.below hV rfl) hP.2 hb (hc.on hV))
theorem kbegs_to (h : KinOk L of) (hk : k0 ≤ m) (hP : PreV L w A n) (hI : Ints w B m of) (hm : m ≤ 1000000) (hc : Clo16 w A n c B m d (k0 : Int) p q)
    (hr : Box w r [.func (.func 24) #[] #[.pointer (some ⟨p, 0, none⟩), .pointer (some ⟨q, 0, none⟩)]]) :
    Calls Try.prog 27 #[.agg #[.slice A n c, .slice B m d], .int .i64 (k0 : Int), .func (.func 46) #[] #[.pointer (some ⟨r, 0, none⟩)]] w (IntsOut w (kinK L of (k0 : Int)).begs.reverse) := by
  have hl := hI.1
  by_cases hkm : k0 < m
  · obtain ⟨_, _, j, x, _, _, ha, _, _⟩ := of_cell h hI hkm
    rw [← begs_ints h ha]
    exact karoundN_to h ha hP hI hm (fun V b hV hb => knota_to h rfl (hP.1.below hV) (hI.below hV rfl) hP.2 hm hb ⟨by omega, by omega⟩ (hc.on hV) (hr.below hV))
  · rw [(no_begs (k := (k0 : Int)) (by rw [ofAt_nat, List.getElem?_eq_none_iff.2 (by omega)])).1]
    exact karound0_to _ rfl (by omega) hI.2.1 w
end
theorem knotbox_to (f : Value) (hf : f.oneCell' = true) (w : World) : Calls Try.prog 28 #[f] w fun e w' => ∃ r, e = .returned (.func (.func 46) #[] #[.pointer (some ⟨r, 0, none⟩)]) ∧ Box w' r [f] ∧ Below w.heap.size w w' :=
  (knot_to f hf w).mono fun e w' ⟨he, hw⟩ => ⟨w.heap.size, he, by rw [hw]; exact Box.new w [f] _, by rw [hw]; exact On.alloc (On.refl w) _⟩
end Go.Proofs.Ytamakeogaipdiaa
/- The document's answers for package read: nodes, whatever stands there. -/
namespace Go.Proofs.Ytamakeogaipdiaa
open Go.RowKit
set_option linter.unusedVariables false
set_option linter.unusedSimpArgs false
theorem rknot (toks : List Tok) (A : Option Addr) (n c' : Nat) (hn : n ≤ 800000) (hlen : toks.length = n) : ∀ m : Nat,
    (∀ (i : Nat) (w : World), i ≤ n → 2 * (n - i) + 1 ≤ m → Rows 4 encT w A n toks → Calls Try.prog 40 #[.slice A n c', .int .i64 i] w (GotP toks true i w)) ∧
    (∀ (b : Nat) (w : World), opens toks b = true → 2 * (n - b) ≤ m → Rows 4 encT w A n toks → Calls Try.prog 58 #[.slice A n c', .int .i64 b] w (GotP toks false b w))
  | 0 => ⟨fun i w _ h _ => absurd h (by omega), fun b w ho h _ => absurd (opens_lt ho) (by omega)⟩
  | m + 1 => by
    obtain ⟨ih1, ih2⟩ := rknot toks A n c' hn hlen m
    refine ⟨fun i w hi hm hR => ?_, fun b w ho hm hR => ?_⟩
    · exact rnodes_any toks A n c' i w hR hi (by omega) (fun b w' h1 h2 hR' ho => ih2 b w' ho (by omega) hR')
    · have hb := opens_lt ho
      exact rone_any toks A n c' b w hR (by omega) ho
        (fun w' hR' hs => rblock_any toks A n c' b w' hR' (by omega) (by omega) hs (fun a w'' h1 h2 hR'' => ih1 a w'' h2 (by omega) hR''))
        (fun w' hR' hs => rtext5_any toks A n c' b w' hR' (by omega) (by omega) hs)
theorem rnodes_all {toks : List Tok} {A : Option Addr} {n c' : Nat} {w : World} (hn : n ≤ 800000) (hR : Rows 4 encT w A n toks) : Calls Try.prog 40 #[.slice A n c', .int .i64 (0 : Nat)] w (GotP toks true 0 w) :=
  (rknot toks A n c' hn hR.1 _).1 0 w (by omega) (Nat.le_refl _) hR
end Go.Proofs.Ytamakeogaipdiaa
/- The document's answers for package read: Of. -/
namespace Go.Proofs.Ytamakeogaipdiaa
open Go.RowKit
set_option linter.unusedVariables false
set_option linter.unusedSimpArgs false
theorem rnodes_zero {toks : List Tok} {A : Option Addr} {n c' : Nat} {w : World} (hn : n ≤ 800000) (hR : Rows 4 encT w A n toks) : Calls Try.prog 40 #[.slice A n c', .int .i64 0] w (GotP toks true 0 w) := rnodes_all hn hR
set_option maxHeartbeats 4000000 in
theorem refof_any (s : ByteArray) (w : World) (hs : s.size ≤ 600000) : Calls Try.prog 21 #[.string s] w (OfPost w s) := by
  go_enter Try.func21, Try.ntmps21
  go_wp2_with fail
  refine (reflex_any s w hs).mono ?_
  rintro e w1 (⟨toks, A, n, c, hl, rfl, hR, ⟨hns, hnc, hA⟩, hb⟩ | ⟨k, hl, rfl, hk, hb⟩)
  · have HL := Lib.hid hl
    have HB := Lib.hid hb
    have hlen := hR.1
    have HR := Lib.hid hR
    clear hl hR hA hb
    go_wp2_with fail
    refine (rnodes_zero (by omega) HR.out).mono ?_
    rintro e w2 ⟨r, hp, hr⟩
    have hple := hp.le
    simp only [Nat.zero_le, forall_const] at hple
    have hs1 := HB.out.size
    cases r with
    | bad q =>
      obtain ⟨rfl, hbw⟩ := hr.bad
      have HR2 := Lib.hid ((HR.out.below hbw).below ((Below.refl _ _).alloc (Nat.le_refl _) (.cells #[.slice none 0 0, .int .i64 (q : Int), .int .i64 1] 72)))
      have HB2 := Lib.hid ((HB.out.trans (hbw.mono hs1)).alloc (by have := hbw.size; omega) (.cells #[.slice none 0 0, .int .i64 (q : Int), .int .i64 1] 72))
      obtain ⟨⟨t0, t1, t2⟩, _, t3⟩ := box3_of (box_new w2 [.slice none 0 0, .int .i64 (q : Int), .int .i64 1] 72 _ rfl _ rfl)
      have HP := Lib.hid hp
      have hq : q ≤ n := by have := hple.2.1; simp only [Res.at_] at this; omega
      clear hp hr hbw hple
      by_cases hlt : q < n
      · obtain ⟨bl, off, x, y, u, v, rfl, hbl, hx, c0, c1, c2, c3⟩ := toks_at HR2.out hlt
        obtain ⟨p, hv, _⟩ := tok_stands HL.out hx
        obtain rfl : v = (p : Int) := hv
        have HRB := Lib.hid (show ReadB s (none, p) from .inr ⟨toks, 0, HL.out, .bad HP.out hx⟩)
        have h1 : (q : Int) < (n : Int) := by omega
        clear hx
        go_wp2_with fail
        go_quiet (fail)
        go_wp2_with fail
        go_returns
        exact .inr ⟨p, HRB.out, rfl, below_drewN HB2.out _⟩
      · have HRB := Lib.hid (show ReadB s (none, s.size) from .inr ⟨toks, 0, HL.out, .short HP.out (by omega)⟩)
        have h1 : (n : Int) ≤ (q : Int) := by omega
        go_wp2_with fail
        go_returns
        exact .inr ⟨_, HRB.out, rfl, HB2.out⟩
    | ok x b =>
      obtain ⟨A1, m, c1, rfl, hnd, hbw⟩ := hr.ok
      have HR2 := Lib.hid ((HR.out.below hbw).below ((Below.refl _ _).alloc (Nat.le_refl _) (.cells #[.slice A1 m c1, .int .i64 (b : Int), .int .i64 0] 72)))
      have HB2 := Lib.hid ((HB.out.trans (hbw.mono hs1)).alloc (by have := hbw.size; omega) (.cells #[.slice A1 m c1, .int .i64 (b : Int), .int .i64 0] 72))
      have HN2 := Lib.hid (hnd.below ((Below.refl _ _).alloc (Nat.le_refl _) (.cells #[.slice A1 m c1, .int .i64 (b : Int), .int .i64 0] 72)))
      obtain ⟨⟨t0, t1, t2⟩, _, t3⟩ := box3_of (box_new w2 [.slice A1 m c1, .int .i64 (b : Int), .int .i64 0] 72 _ rfl _ rfl)
      have HP := Lib.hid hp
      have hq : b ≤ n := by have := hple.2.1; simp only [Res.at_] at this; omega
      clear hp hr hbw hple hnd
      by_cases hlt : b < n
      · obtain ⟨bl, off, x', y, u, v, rfl, hbl, hx, c0, c1, c2, c3⟩ := toks_at HR2.out hlt
        obtain ⟨p, hv, _⟩ := tok_stands HL.out hx
        obtain rfl : v = (p : Int) := hv
        have HRB := Lib.hid (show ReadB s (none, p) from .inr ⟨toks, 0, HL.out, .rest HP.out hx⟩)
        have h1 : (b : Int) < (n : Int) := by omega
        clear hx
        go_wp2_with fail
        go_quiet (fail)
        go_wp2_with fail
        go_returns
        exact .inr ⟨p, HRB.out, rfl, below_drewN HB2.out _⟩
      · obtain rfl : b = n := by omega
        have HRB := Lib.hid (show ReadB s (some x, 0) from .inr ⟨toks, 0, HL.out, .ok (by rw [hlen]; exact HP.out)⟩)
        have h1 : (b : Int) ≤ (b : Int) := by omega
        go_wp2_with fail
        go_returns
        exact .inl ⟨x, A1, m, c1, HRB.out, rfl, HN2.out.up (by omega), HB2.out⟩
  · have HP := Lib.hid (show ReadB s (none, k) from .inl ⟨k, hl, rfl⟩)
    have HB := Lib.hid hb
    clear hl hb
    go_wp2_with fail
    go_returns
    exact .inr ⟨k, HP.out, rfl, HB.out⟩
end Go.Proofs.Ytamakeogaipdiaa
/- Contracts by value of the document's functions for package read; a script that is written out. -/
namespace Go.Proofs.Ytamakeogaipdiaa
open Go.RowKit
set_option linter.unusedVariables false
set_option linter.unusedSimpArgs false
theorem rof_ok {s : ByteArray} {x : List Nd} (h : ReadB s (some x, 0)) (w : World) (hs : s.size ≤ 600000) : Calls Try.prog 21 #[.string s] w (ReadOk w x) := (refof_any s w hs).mono fun _ _ hp => of_ok h hp
theorem rof_bad {s : ByteArray} {k : Nat} (h : ReadB s (none, k)) (w : World) (hs : s.size ≤ 600000) : Calls Try.prog 21 #[.string s] w fun e w' => e = .returned (.tuple #[.slice none 0 0, .int .i64 (k : Int), .int .i64 1]) ∧ Below w.heap.size w w' := (refof_any s w hs).mono fun _ _ hp => of_bad h hp
end Go.Proofs.Ytamakeogaipdiaa
