import Derived.Test.YtildplbdhnodjaaDoorJD23
import Derived.Test.YtildplbdhnodjaaDoorJD16
import Derived.Test.YtildplbdhnodjaaDoorJD20
import Derived.Test.YtildplbdhnodjaaDoorJD06
import Derived.Test.YtildplbdhnodjaaDoorJD03
import Derived.Deep.QuietTactic
import Derived.BigQuiet
import Derived.Test.YtildplbdhnodjaaDoorJD01
import Derived.Test.YtildplbdhnodjaaDoorJD25
import Derived.Test.YtildplbdhnodjaaDoorJD17
/- The document's answers for package read: nodes, whatever stands there. -/
namespace Go.Proofs.YtildplbdhnodjaaDoor
open Go.RowKit
set_option linter.unusedVariables false
set_option linter.unusedSimpArgs false
theorem rknot (toks : List Tok) (A : Option Addr) (n c' : Nat) (hn : n ≤ 800000) (hlen : toks.length = n) : ∀ m : Nat,
    (∀ (i : Nat) (w : World), i ≤ n → 2 * (n - i) + 1 ≤ m → Rows 4 encT w A n toks → Calls Tryd.prog 18 #[.slice A n c', .int .i64 i] w (GotP toks true i w)) ∧
    (∀ (b : Nat) (w : World), opens toks b = true → 2 * (n - b) ≤ m → Rows 4 encT w A n toks → Calls Tryd.prog 38 #[.slice A n c', .int .i64 b] w (GotP toks false b w))
  | 0 => ⟨fun i w _ h _ => absurd h (by omega), fun b w ho h _ => absurd (opens_lt ho) (by omega)⟩
  | m + 1 => by
    obtain ⟨ih1, ih2⟩ := rknot toks A n c' hn hlen m
    refine ⟨fun i w hi hm hR => ?_, fun b w ho hm hR => ?_⟩
    · exact rnodes_any toks A n c' i w hR hi (by omega) (fun b w' h1 h2 hR' ho => ih2 b w' ho (by omega) hR')
    · have hb := opens_lt ho
      exact rone_any toks A n c' b w hR (by omega) ho
        (fun w' hR' hs => rblock_any toks A n c' b w' hR' (by omega) (by omega) hs (fun a w'' h1 h2 hR'' => ih1 a w'' h2 (by omega) hR''))
        (fun w' hR' hs => rtext5_any toks A n c' b w' hR' (by omega) (by omega) hs)
theorem rnodes_all {toks : List Tok} {A : Option Addr} {n c' : Nat} {w : World} (hn : n ≤ 800000) (hR : Rows 4 encT w A n toks) : Calls Tryd.prog 18 #[.slice A n c', .int .i64 (0 : Nat)] w (GotP toks true 0 w) :=
  (rknot toks A n c' hn hR.1 _).1 0 w (by omega) (Nat.le_refl _) hR
end Go.Proofs.YtildplbdhnodjaaDoor
/- The document's answers for package read: Of. -/
namespace Go.Proofs.YtildplbdhnodjaaDoor
open Go.RowKit
set_option linter.unusedVariables false
set_option linter.unusedSimpArgs false
theorem rnodes_zero {toks : List Tok} {A : Option Addr} {n c' : Nat} {w : World} (hn : n ≤ 800000) (hR : Rows 4 encT w A n toks) : Calls Tryd.prog 18 #[.slice A n c', .int .i64 0] w (GotP toks true 0 w) := rnodes_all hn hR
set_option maxHeartbeats 4000000 in
theorem refof_any (s : ByteArray) (w : World) (hs : s.size ≤ 100000) : Calls Tryd.prog 9 #[.string s] w (OfPost w s) := by
  go_enter Tryd.func9, Tryd.ntmps9
  go_wp2_with fail
  refine (reflex_any s w hs).mono ?_
  rintro e w1 (⟨toks, A, n, c, hl, rfl, hR, ⟨hns, hnc, hA⟩, hb⟩ | ⟨k, hl, rfl, hk, hb⟩)
  · have HL := Lib.hid hl
    have HB := Lib.hid hb
    have hlen := hR.1
    have HR := Lib.hid hR
    clear hl hR hA hb
    go_wp2_with fail
    refine (rnodes_zero (by omega) HR.out).mono ?_
    rintro e w2 ⟨r, hp, hr⟩
    have hple := hp.le
    simp only [Nat.zero_le, forall_const] at hple
    have hs1 := HB.out.size
    cases r with
    | bad q =>
      obtain ⟨rfl, hbw⟩ := hr.bad
      have HR2 := Lib.hid ((HR.out.below hbw).below ((Below.refl _ _).alloc (Nat.le_refl _) (.cells #[.slice none 0 0, .int .i64 (q : Int), .int .i64 1] 59)))
      have HB2 := Lib.hid ((HB.out.trans (hbw.mono hs1)).alloc (by have := hbw.size; omega) (.cells #[.slice none 0 0, .int .i64 (q : Int), .int .i64 1] 59))
      obtain ⟨⟨t0, t1, t2⟩, _, t3⟩ := box3_of (box_new w2 [.slice none 0 0, .int .i64 (q : Int), .int .i64 1] 59 _ rfl _ rfl)
      have HP := Lib.hid hp
      have hq : q ≤ n := by have := hple.2.1; simp only [Res.at_] at this; omega
      clear hp hr hbw hple
      by_cases hlt : q < n
      · obtain ⟨bl, off, x, y, u, v, rfl, hbl, hx, c0, c1, c2, c3⟩ := toks_at HR2.out hlt
        obtain ⟨p, hv, _⟩ := tok_stands HL.out hx
        obtain rfl : v = (p : Int) := hv
        have HRB := Lib.hid (show ReadB s (none, p) from .inr ⟨toks, 0, HL.out, .bad HP.out hx⟩)
        have h1 : (q : Int) < (n : Int) := by omega
        clear hx
        go_wp2_with fail
        go_quiet (fail)
        go_wp2_with fail
        go_returns
        exact .inr ⟨p, HRB.out, rfl, below_drewN HB2.out _⟩
      · have HRB := Lib.hid (show ReadB s (none, s.size) from .inr ⟨toks, 0, HL.out, .short HP.out (by omega)⟩)
        have h1 : (n : Int) ≤ (q : Int) := by omega
        go_wp2_with fail
        go_returns
        exact .inr ⟨_, HRB.out, rfl, HB2.out⟩
    | ok x b =>
      obtain ⟨A1, m, c1, rfl, hnd, hbw⟩ := hr.ok
      have HR2 := Lib.hid ((HR.out.below hbw).below ((Below.refl _ _).alloc (Nat.le_refl _) (.cells #[.slice A1 m c1, .int .i64 (b : Int), .int .i64 0] 59)))
      have HB2 := Lib.hid ((HB.out.trans (hbw.mono hs1)).alloc (by have := hbw.size; omega) (.cells #[.slice A1 m c1, .int .i64 (b : Int), .int .i64 0] 59))
      have HN2 := Lib.hid (hnd.below ((Below.refl _ _).alloc (Nat.le_refl _) (.cells #[.slice A1 m c1, .int .i64 (b : Int), .int .i64 0] 59)))
      obtain ⟨⟨t0, t1, t2⟩, _, t3⟩ := box3_of (box_new w2 [.slice A1 m c1, .int .i64 (b : Int), .int .i64 0] 59 _ rfl _ rfl)
      have HP := Lib.hid hp
      have hq : b ≤ n := by have := hple.2.1; simp only [Res.at_] at this; omega
      clear hp hr hbw hple hnd
      by_cases hlt : b < n
      · obtain ⟨bl, off, x', y, u, v, rfl, hbl, hx, c0, c1, c2, c3⟩ := toks_at HR2.out hlt
        obtain ⟨p, hv, _⟩ := tok_stands HL.out hx
        obtain rfl : v = (p : Int) := hv
        have HRB := Lib.hid (show ReadB s (none, p) from .inr ⟨toks, 0, HL.out, .rest HP.out hx⟩)
        have h1 : (b : Int) < (n : Int) := by omega
        clear hx
        go_wp2_with fail
        go_quiet (fail)
        go_wp2_with fail
        go_returns
        exact .inr ⟨p, HRB.out, rfl, below_drewN HB2.out _⟩
      · obtain rfl : b = n := by omega
        have HRB := Lib.hid (show ReadB s (some x, 0) from .inr ⟨toks, 0, HL.out, .ok (by rw [hlen]; exact HP.out)⟩)
        have h1 : (b : Int) ≤ (b : Int) := by omega
        go_wp2_with fail
        go_returns
        exact .inl ⟨x, A1, m, c1, HRB.out, rfl, HN2.out.up (by omega), HB2.out⟩
  · have HP := Lib.hid (show ReadB s (none, k) from .inl ⟨k, hl, rfl⟩)
    have HB := Lib.hid hb
    clear hl hb
    go_wp2_with fail
    go_returns
    exact .inr ⟨k, HP.out, rfl, HB.out⟩
end Go.Proofs.YtildplbdhnodjaaDoor
/- Contracts by value of the document's functions for package read; a script that is written out. -/
namespace Go.Proofs.YtildplbdhnodjaaDoor
open Go.RowKit
set_option linter.unusedVariables false
set_option linter.unusedSimpArgs false
def ReadOk (w : World) (x : List Nd) (e : Ending) (w' : World) : Prop := ∃ A n c, e = .returned (.tuple #[.slice A n c, .int .i64 0, .int .i64 0]) ∧ Nds w.heap.size w' A n x ∧ Below w.heap.size w w'
theorem of_ok {w w' : World} {s : ByteArray} {e : Ending} {x : List Nd} (h : ReadB s (some x, 0)) (hp : OfPost w s e w') : ReadOk w x e w' := by
  rcases hp with ⟨x', A, n, c, h1, h2, h3, h4⟩ | ⟨k, h1, _⟩
  · have := h.det h1
    injection this with h5 _; injection h5 with h5; subst h5
    exact ⟨A, n, c, h2, h3, h4⟩
  · have := h.det h1
    injection this with h5 _; cases h5
theorem of_bad {w w' : World} {s : ByteArray} {e : Ending} {k : Nat} (h : ReadB s (none, k)) (hp : OfPost w s e w') : e = .returned (.tuple #[.slice none 0 0, .int .i64 (k : Int), .int .i64 1]) ∧ Below w.heap.size w w' := by
  rcases hp with ⟨x', A, n, c, h1, _⟩ | ⟨k', h1, h2, h3⟩
  · have := h.det h1
    injection this with h5 _; cases h5
  · have := h.det h1
    injection this with _ h5; subst h5
    exact ⟨h2, h3⟩
theorem rof_ok {s : ByteArray} {x : List Nd} (h : ReadB s (some x, 0)) (w : World) (hs : s.size ≤ 100000) : Calls Tryd.prog 9 #[.string s] w (ReadOk w x) := (refof_any s w hs).mono fun _ _ hp => of_ok h hp
theorem rof_bad {s : ByteArray} {k : Nat} (h : ReadB s (none, k)) (w : World) (hs : s.size ≤ 100000) : Calls Tryd.prog 9 #[.string s] w fun e w' => e = .returned (.tuple #[.slice none 0 0, .int .i64 (k : Int), .int .i64 1]) ∧ Below w.heap.size w w' := (refof_any s w hs).mono fun _ _ hp => of_bad h hp
/-- a script that is written out. -/
def evalF (s : ByteArray) : Option (Option (List Nd) × Nat) := match lexB s with
  | (some toks, 0) => readF toks s.size
  | (none, k) => some (none, k)
  | _ => none
theorem evalF_ok {s : ByteArray} {r : Option (List Nd) × Nat} (h : evalF s = some r) : ReadB s r := by
  unfold evalF at h
  split at h
  · rename_i toks h1; exact .inr ⟨toks, 0, h1, readF_ok h⟩
  · rename_i k h1; cases h; exact .inl ⟨k, h1, rfl⟩
  · cases h
end Go.Proofs.YtildplbdhnodjaaDoor
/- The program's package valid: what a round of count makes of what is known. Nothing of the program stands here. -/
namespace Go.Proofs.YtildplbdhnodjaaDoor
open Go
set_option linter.unusedVariables false
set_option linter.unusedSimpArgs false
def upTo (l : List Nd) (k : Nat) : Prop := NestTo l k ∧ ∀ (j : Nat) (x : Nd), j < k → l[j]? = some x → x.fits
theorem upTo.zero (l : List Nd) : upTo l 0 := ⟨NestTo.zero l, fun j x h => by omega⟩
theorem upTo.succ {l : List Nd} {k : Nat} {x : Nd} (h : upTo l k) (hx : l[k]? = some x) (hn : NestAt l k) (hf : x.fits) : upTo l (k + 1) :=
  ⟨h.1.succ hn, fun j y hj hy => by
    rcases Nat.lt_or_ge j k with hjk | hjk
    · exact h.2 j y hjk hy
    · obtain rfl : j = k := by omega
      rw [hx] at hy; injection hy with hy; subst hy; exact hf⟩
theorem upTo.all {l : List Nd} {k : Nat} (h : upTo l k) (hk : l.length ≤ k) : IsDoc l := by
  refine ⟨fun x hx => ?_, (forest_iff_nested l).2 (h.1.all hk)⟩
  obtain ⟨j, hj, rfl⟩ := List.getElem_of_mem hx
  exact h.2 j _ (by omega) (List.getElem?_eq_getElem hj)
/-- the ends that are open ahead of place k: the whole row's, and blocks'. -/
def endsAt (l : List Nd) (k : Nat) : List Int := (l.length : Int) :: opnV l k ((k : Int) - 1)
def endsIn (l : List Nd) (k : Nat) : List Int := (l.length : Int) :: opnV l k k
theorem endsAt_zero (l : List Nd) : endsAt l 0 = [(l.length : Int)] := rfl
theorem ends_split {l : List Nd} {k : Nat} (h : upTo l k) : ∃ m, endsAt l k = endsIn l k ++ List.replicate m (k : Int) := by
  have hf := open_falls (z := (k : Int) - 1) h.1 (Int.le_refl _)
  obtain ⟨m, hm⟩ := falls_split (c := (k : Int)) hf (fun e he => by have := (mem_opnV.1 he).1; omega)
  rw [opnV_up l k (by omega)] at hm
  exact ⟨m, by unfold endsAt endsIn; rw [List.cons_append, ← hm]⟩
theorem endsIn_last (l : List Nd) (k : Nat) : (endsIn l k).getLast? = some (lastEnd l k) := by
  unfold endsIn lastEnd
  rcases h : (opnV l k k) with _ | ⟨a, t⟩
  · rfl
  · rw [List.getLast?_cons_cons]
    rcases hg : (a :: t).getLast? with _ | z
    · rw [List.getLast?_eq_none_iff] at hg; cases hg
    · rfl
theorem lastEnd_gt {l : List Nd} {k : Nat} (hk : k < l.length) : (k : Int) < lastEnd l k := by
  unfold lastEnd
  rcases hg : (opnV l k k).getLast? with _ | z
  · simp; omega
  · exact (mem_opnV.1 (List.mem_of_getLast? hg)).1
theorem lastEnd_le {l : List Nd} {k : Nat} (h : upTo l k) : lastEnd l k ≤ l.length := by
  unfold lastEnd
  rcases hg : (opnV l k k).getLast? with _ | z
  · simp
  · obtain ⟨_, j, y, hj, hy, _, rfl⟩ := mem_opnV.1 (List.mem_of_getLast? hg)
    exact (h.1 j hj y hy).2.1
theorem fits_nest {l : List Nd} {k : Nat} {x : Nd} {m : NdM} (h : upTo l k) (hx : l[k]? = some x) (e1 : x.kind = m.kind) (e2 : x.size = m.size) : fitsB m (lastEnd l k - k) = true ↔ NestAt l k := by
  have hgt := lastEnd_gt (List.getElem?_eq_some_iff.1 hx).1
  rw [fitsB_iff, nestAt_iff h.1 hx, ← e1, ← e2]
  constructor
  · rintro ⟨a, b, c⟩
    refine ⟨a, ?_, c⟩
    by_cases hk : x.kind = 1
    · exact b hk
    · have := c hk; omega
  · rintro ⟨a, b, c⟩
    exact ⟨a, fun _ => b, c⟩
theorem notdoc_nest {l : List Nd} {k : Nat} (h : ¬ NestAt l k) : ¬ IsDoc l := fun hd => h (((forest_iff_nested l).1 hd.2) k)
theorem notdoc_one {l : List Nd} {k : Nat} {x : Nd} (hx : l[k]? = some x) (h : oneB x = false) : ¬ IsDoc l := fun hd => by
  rw [(oneB_iff x).2 (hd.1 x (List.mem_of_getElem? hx))] at h; cases h
theorem endOf_at {l : List Nd} {k : Nat} {x : Nd} (hx : l[k]? = some x) : endOf l k = if x.kind = 1 then [(k : Int) + x.size] else [] := by unfold endOf; rw [hx]
theorem endOf_keep {l : List Nd} {k : Nat} {x : Nd} (hx : l[k]? = some x) (h1 : 1 ≤ x.size) : (endOf l k).filter (fun e => decide ((k : Int) < e)) = endOf l k := by
  rw [endOf_at hx]
  split
  · rw [List.filter_cons_of_pos (by simp; omega)]; rfl
  · rfl
theorem ends_next {l : List Nd} {k : Nat} {x : Nd} (hx : l[k]? = some x) (h1 : 1 ≤ x.size) : endsIn l k ++ (if x.kind = 1 then [(k : Int) + x.size] else []) = endsAt l (k + 1) := by
  unfold endsIn endsAt
  rw [show ((k + 1 : Nat) : Int) - 1 = k by omega, opnV_succ, endOf_keep hx h1, endOf_at hx, List.cons_append]
theorem depN_at {l : List Nd} {k : Nat} {x : Nd} (hx : l[k]? = some x) (h1 : 1 ≤ x.size) (hk : x.kind = 1) : depN l k = (endsIn l k).length := by
  unfold depN endsIn
  rw [opnV_succ, endOf_keep hx h1, endOf_at hx, if_pos hk]
  simp
theorem endsIn_len (l : List Nd) (k : Nat) : (endsIn l k).length ≤ k + 1 := by
  have hAE : ∀ i, (AE l i).length ≤ i := by
    intro i
    induction i with
    | zero => simp [AE]
    | succ i ih =>
      rw [AE, List.length_append]
      have : (endOf l i).length ≤ 1 := by
        unfold endOf
        split
        · split <;> simp
        · simp
      omega
  unfold endsIn opnV
  have := List.length_filter_le (fun e => decide ((k : Int) < e)) (AE l k)
  have := hAE k
  simp; omega
theorem high_take {l : List Nd} {k : Nat} (h : upTo l k) : 0 ≤ sumI highN (l.take k) := sumI_pos fun x hx => by
  obtain ⟨j, hj, rfl⟩ := List.getElem_of_mem hx
  rw [List.length_take] at hj
  rw [List.getElem_take]
  exact high_pos (h.2 j _ (by omega) (List.getElem?_eq_getElem (by omega)))
theorem take_sum {l : List Nd} {k : Nat} {x : Nd} (h : upTo l k) (hx : l[k]? = some x) (hf : x.fits) (h1 : 1 ≤ x.size) (hw : x.words.length ≤ 9223372036854775807) : takeS (sumTo l k) x (endsIn l k).length = sumTo l (k + 1) := by
  obtain ⟨_, _, a3⟩ := alone_high hf hw
  have hd := depTo_pos l k
  have e : plusS (sumTo l k) (aloneS x) = ⟨depTo l k, wr (sumI piecesN (l.take (k + 1))), ((k + 1 : Nat) : Int), cut (sumI highN (l.take (k + 1)))⟩ := by
    unfold plusS
    rw [sumI_take piecesN hx, sumI_take highN hx, ← a3 _ (high_take h)]
    simp only [sumTo, aloneS]
    rw [wr_add]
    congr 1
    · omega
  unfold takeS
  rw [e]
  unfold sumTo
  rw [depTo_succ hx]
  split
  · rename_i hk
    rw [depN_at hx h1 hk]
  · rfl
theorem pieces_take (l : List Nd) (hw : ∀ x ∈ l, x.words.length ≤ 100000) : ∀ k : Nat, sumI piecesN (l.take k) ≤ 100000 * k
  | 0 => by simp [sumI]
  | k + 1 => by
    have ih := pieces_take l hw k
    rcases hx : l[k]? with _ | x
    · rw [List.take_add_one, hx]
      simp only [Option.toList_none, List.append_nil]
      omega
    · rw [sumI_take piecesN hx]
      have : piecesN x ≤ 100000 := by
        have := hw x (List.mem_of_getElem? hx)
        unfold piecesN
        split
        · omega
        · split <;> omega
      omega
theorem sum_small {l : List Nd} {k : Nat} (h : upTo l k) (hk : k ≤ 100000) : (sumTo l k).small := by
  have h3 := cut_le (sumI highN (l.take k))
  refine ⟨depTo_pos l k, wr_wr _, ⟨?_, ?_⟩, cut_pos (high_take h), ?_⟩
  · show (0 : Int) ≤ (k : Int); omega
  · show (k : Int) ≤ _; omega
  · show cut _ ≤ _
    unfold cutN at h3; exact h3
end Go.Proofs.YtildplbdhnodjaaDoor
