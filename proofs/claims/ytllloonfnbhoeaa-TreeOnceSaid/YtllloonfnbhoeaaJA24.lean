import Derived.Test.YtllloonfnbhoeaaJA21
import Derived.Test.YtllloonfnbhoeaaJA14
import Derived.Test.YtllloonfnbhoeaaJA18
import Derived.Test.YtllloonfnbhoeaaJA02
import Derived.Deep.QuietTactic
import Derived.BigQuiet
import Derived.Test.YtllloonfnbhoeaaJA06
import Derived.Test.YtllloonfnbhoeaaJA12
import Derived.Test.YtllloonfnbhoeaaJA20
import Derived.Test.YtllloonfnbhoeaaJA17
import Derived.Test.YtllloonfnbhoeaaJA22
import Derived.Laws.MakeOwn
import Derived.Test.YtllloonfnbhoeaaJA23
import Derived.Test.YtllloonfnbhoeaaJA00
/- The document's answers for package read: nodes, whatever stands there. -/
namespace Go.Proofs.Ytllloonfnbhoeaa
open Go.RowKit
set_option linter.unusedVariables false
set_option linter.unusedSimpArgs false
theorem rknot (toks : List Tok) (A : Option Addr) (n c' : Nat) (hn : n ≤ 800000) (hlen : toks.length = n) : ∀ m : Nat,
    (∀ (i : Nat) (w : World), i ≤ n → 2 * (n - i) + 1 ≤ m → Rows 4 encT w A n toks → Calls Try.prog 43 #[.slice A n c', .int .i64 i] w (GotP toks true i w)) ∧
    (∀ (b : Nat) (w : World), opens toks b = true → 2 * (n - b) ≤ m → Rows 4 encT w A n toks → Calls Try.prog 61 #[.slice A n c', .int .i64 b] w (GotP toks false b w))
  | 0 => ⟨fun i w _ h _ => absurd h (by omega), fun b w ho h _ => absurd (opens_lt ho) (by omega)⟩
  | m + 1 => by
    obtain ⟨ih1, ih2⟩ := rknot toks A n c' hn hlen m
    refine ⟨fun i w hi hm hR => ?_, fun b w ho hm hR => ?_⟩
    · exact rnodes_any toks A n c' i w hR hi (by omega) (fun b w' h1 h2 hR' ho => ih2 b w' ho (by omega) hR')
    · have hb := opens_lt ho
      exact rone_any toks A n c' b w hR (by omega) ho
        (fun w' hR' hs => rblock_any toks A n c' b w' hR' (by omega) (by omega) hs (fun a w'' h1 h2 hR'' => ih1 a w'' h2 (by omega) hR''))
        (fun w' hR' hs => rtext5_any toks A n c' b w' hR' (by omega) (by omega) hs)
theorem rnodes_all {toks : List Tok} {A : Option Addr} {n c' : Nat} {w : World} (hn : n ≤ 800000) (hR : Rows 4 encT w A n toks) : Calls Try.prog 43 #[.slice A n c', .int .i64 (0 : Nat)] w (GotP toks true 0 w) :=
  (rknot toks A n c' hn hR.1 _).1 0 w (by omega) (Nat.le_refl _) hR
end Go.Proofs.Ytllloonfnbhoeaa
/- The document's answers for package read: Of. -/
namespace Go.Proofs.Ytllloonfnbhoeaa
open Go.RowKit
set_option linter.unusedVariables false
set_option linter.unusedSimpArgs false
theorem rnodes_zero {toks : List Tok} {A : Option Addr} {n c' : Nat} {w : World} (hn : n ≤ 800000) (hR : Rows 4 encT w A n toks) : Calls Try.prog 43 #[.slice A n c', .int .i64 0] w (GotP toks true 0 w) := rnodes_all hn hR
set_option maxHeartbeats 4000000 in
theorem refof_any (s : ByteArray) (w : World) (hs : s.size ≤ 600000) : Calls Try.prog 24 #[.string s] w (OfPost w s) := by
  go_enter Try.func24, Try.ntmps24
  go_wp2_with fail
  refine (reflex_any s w hs).mono ?_
  rintro e w1 (⟨toks, A, n, c, hl, rfl, hR, ⟨hns, hnc, hA⟩, hb⟩ | ⟨k, hl, rfl, hk, hb⟩)
  · have HL := Lib.hid hl
    have HB := Lib.hid hb
    have hlen := hR.1
    have HR := Lib.hid hR
    clear hl hR hA hb
    go_wp2_with fail
    refine (rnodes_zero (by omega) HR.out).mono ?_
    rintro e w2 ⟨r, hp, hr⟩
    have hple := hp.le
    simp only [Nat.zero_le, forall_const] at hple
    have hs1 := HB.out.size
    cases r with
    | bad q =>
      obtain ⟨rfl, hbw⟩ := hr.bad
      have HR2 := Lib.hid ((HR.out.below hbw).below ((Below.refl _ _).alloc (Nat.le_refl _) (.cells #[.slice none 0 0, .int .i64 (q : Int), .int .i64 1] 73)))
      have HB2 := Lib.hid ((HB.out.trans (hbw.mono hs1)).alloc (by have := hbw.size; omega) (.cells #[.slice none 0 0, .int .i64 (q : Int), .int .i64 1] 73))
      obtain ⟨⟨t0, t1, t2⟩, _, t3⟩ := box3_of (box_new w2 [.slice none 0 0, .int .i64 (q : Int), .int .i64 1] 73 _ rfl _ rfl)
      have HP := Lib.hid hp
      have hq : q ≤ n := by have := hple.2.1; simp only [Res.at_] at this; omega
      clear hp hr hbw hple
      by_cases hlt : q < n
      · obtain ⟨bl, off, x, y, u, v, rfl, hbl, hx, c0, c1, c2, c3⟩ := toks_at HR2.out hlt
        obtain ⟨p, hv, _⟩ := tok_stands HL.out hx
        obtain rfl : v = (p : Int) := hv
        have HRB := Lib.hid (show ReadB s (none, p) from .inr ⟨toks, 0, HL.out, .bad HP.out hx⟩)
        have h1 : (q : Int) < (n : Int) := by omega
        clear hx
        go_wp2_with fail
        go_quiet (fail)
        go_wp2_with fail
        go_returns
        exact .inr ⟨p, HRB.out, rfl, below_drewN HB2.out _⟩
      · have HRB := Lib.hid (show ReadB s (none, s.size) from .inr ⟨toks, 0, HL.out, .short HP.out (by omega)⟩)
        have h1 : (n : Int) ≤ (q : Int) := by omega
        go_wp2_with fail
        go_returns
        exact .inr ⟨_, HRB.out, rfl, HB2.out⟩
    | ok x b =>
      obtain ⟨A1, m, c1, rfl, hnd, hbw⟩ := hr.ok
      have HR2 := Lib.hid ((HR.out.below hbw).below ((Below.refl _ _).alloc (Nat.le_refl _) (.cells #[.slice A1 m c1, .int .i64 (b : Int), .int .i64 0] 73)))
      have HB2 := Lib.hid ((HB.out.trans (hbw.mono hs1)).alloc (by have := hbw.size; omega) (.cells #[.slice A1 m c1, .int .i64 (b : Int), .int .i64 0] 73))
      have HN2 := Lib.hid (hnd.below ((Below.refl _ _).alloc (Nat.le_refl _) (.cells #[.slice A1 m c1, .int .i64 (b : Int), .int .i64 0] 73)))
      obtain ⟨⟨t0, t1, t2⟩, _, t3⟩ := box3_of (box_new w2 [.slice A1 m c1, .int .i64 (b : Int), .int .i64 0] 73 _ rfl _ rfl)
      have HP := Lib.hid hp
      have hq : b ≤ n := by have := hple.2.1; simp only [Res.at_] at this; omega
      clear hp hr hbw hple hnd
      by_cases hlt : b < n
      · obtain ⟨bl, off, x', y, u, v, rfl, hbl, hx, c0, c1, c2, c3⟩ := toks_at HR2.out hlt
        obtain ⟨p, hv, _⟩ := tok_stands HL.out hx
        obtain rfl : v = (p : Int) := hv
        have HRB := Lib.hid (show ReadB s (none, p) from .inr ⟨toks, 0, HL.out, .rest HP.out hx⟩)
        have h1 : (b : Int) < (n : Int) := by omega
        clear hx
        go_wp2_with fail
        go_quiet (fail)
        go_wp2_with fail
        go_returns
        exact .inr ⟨p, HRB.out, rfl, below_drewN HB2.out _⟩
      · obtain rfl : b = n := by omega
        have HRB := Lib.hid (show ReadB s (some x, 0) from .inr ⟨toks, 0, HL.out, .ok (by rw [hlen]; exact HP.out)⟩)
        have h1 : (b : Int) ≤ (b : Int) := by omega
        go_wp2_with fail
        go_returns
        exact .inl ⟨x, A1, m, c1, HRB.out, rfl, HN2.out.up (by omega), HB2.out⟩
  · have HP := Lib.hid (show ReadB s (none, k) from .inl ⟨k, hl, rfl⟩)
    have HB := Lib.hid hb
    clear hl hb
    go_wp2_with fail
    go_returns
    exact .inr ⟨k, HP.out, rfl, HB.out⟩
end Go.Proofs.Ytllloonfnbhoeaa
/- Contracts by value of the document's functions for package read; a script that is written out. -/
namespace Go.Proofs.Ytllloonfnbhoeaa
open Go.RowKit
set_option linter.unusedVariables false
set_option linter.unusedSimpArgs false
theorem rof_ok {s : ByteArray} {x : List Nd} (h : ReadB s (some x, 0)) (w : World) (hs : s.size ≤ 600000) : Calls Try.prog 24 #[.string s] w (ReadOk w x) := (refof_any s w hs).mono fun _ _ hp => of_ok h hp
theorem rof_bad {s : ByteArray} {k : Nat} (h : ReadB s (none, k)) (w : World) (hs : s.size ≤ 600000) : Calls Try.prog 24 #[.string s] w fun e w' => e = .returned (.tuple #[.slice none 0 0, .int .i64 (k : Int), .int .i64 1]) ∧ Below w.heap.size w w' := (refof_any s w hs).mono fun _ _ hp => of_bad h hp
end Go.Proofs.Ytllloonfnbhoeaa
/- Stage 8's laws: rows of rooms that are the same, vast; what package tree is asked to say. -/
namespace Go.Proofs.Ytllloonfnbhoeaa
open Go.RowKit
set_option linter.unusedVariables false
set_option linter.unusedSimpArgs false
theorem room_equal (a0 a1 b0 b1 : Int) (w : World) : (Op.equalIn 10000 37 (.agg #[.int .i64 a0, .int .i64 a1]) (.agg #[.int .i64 b0, .int .i64 b1])).run Try.prog w = .ok (a0 == b0 && a1 == b1) w := by
  rw [show (10000 : Nat) = 9999 + 1 from rfl, run_equalIn_struct w 9999 _ _ _ (by kernel_rfl) (by kernel_rfl)]
  have hi : ∀ (a b : Int) (w : World), (Op.equalIn 9999 3 (.int .i64 a) (.int .i64 b)).run Try.prog w = .ok (a == b) w := fun a b w => run_equalIn_int w 9998 3 .i64 .i64 a b Try.underlying3
  simp [Program.fieldsOf, Try.underlying37, Op.eqFields, part_int, hi, ite_and]
  simp only [ite_ok]
  congr 1
  rw [Bool.eq_iff_iff]
  simp [and_assoc]
theorem room_same (a0 a1 : Int) (w : World) : (Op.equalIn 10000 37 (.agg #[.int .i64 a0, .int .i64 a1]) (.agg #[.int .i64 a0, .int .i64 a1])).run Try.prog w = .ok true w := by rw [room_equal]; simp
theorem rooms_at {w : World} {A : Option Addr} {n : Nat} {zs : List (Int × Int)} (h : Rows 2 encRm w A n zs) {i : Nat} (hi : i < n) :
    ∃ b off x y, A = some ⟨b, off, none⟩ ∧ b < w.heap.size ∧ zs[i]? = some (x, y) ∧ w.cell? ⟨b, off + i * 2, none⟩ = some (.int .i64 x) ∧ w.cell? ⟨b, off + i * 2 + 1, none⟩ = some (.int .i64 y) := by
  obtain ⟨b, off, ⟨x, y⟩, h1, h2, h3, h4⟩ := h.at_ hi
  exact ⟨b, off, x, y, h1, h2, h3, h4 0 _ rfl, h4 1 _ rfl⟩
set_option maxHeartbeats 2000000 in
set_option maxRecDepth 100000 in
/-- two rows of the same rooms are the same. -/
theorem rooms_same {zs : List (Int × Int)} {A B : Option Addr} {n m c d : Nat} {w : World} (h1 : Rows 2 encRm w A n zs) (h2 : Rows 2 encRm w B m zs) :
    Calls Try.prog 21 #[.slice A n c, .slice B m d] w fun e w' => e = .returned (.bool true) ∧ Below w.heap.size w w' := by
  have hn := h1.2.1
  obtain rfl : n = m := h1.1.symm.trans h2.1
  have H1 := Lib.hid h1
  have H2 := Lib.hid h2
  clear h1 h2
  have hq : ((n : Int) != (n : Int)) = false := by simp
  go_enter Try.func21, Try.ntmps21
  go_wp2_with fail
  go_loopw [5] (fun i wr => ∃ k m : Nat, k ≤ n ∧ i = .int .i64 k ∧ wr = w.drewN m) (fun i _ => n - (intOf i).toNat)
  case atStart => exact ⟨0, 0, by omega, rfl, rfl⟩
  case round =>
    obtain ⟨k, m, hk, rfl, rfl⟩ := hrel
    by_cases hlt : k < n
    · have hk2 : (k : Int) < (n : Int) := by omega
      obtain ⟨b, off, x, y, rfl, hbl, hx, c0, c1⟩ := rooms_at H1.out hlt
      obtain ⟨b', off', x', y', rfl, hbl', hx', c0', c1'⟩ := rooms_at H2.out hlt
      rw [hx] at hx'
      injection hx' with hx'
      injection hx' with e1 e2
      subst e1 e2
      have HX := Lib.hid hx
      have he := room_same x y
      clear hx
      go_wp2_with fail
      go_quiet (fail)
      go_wp2_with fail
      go_roundw
      case rel => exact ⟨k + 1, _, by omega, by go_num, rfl⟩
      case measure => simp [intOf]; omega
    · have hk2 : (n : Int) ≤ (k : Int) := by omega
      go_wp2_with fail
      go_ret
      exact ⟨rfl, below_drewN (Below.refl _ _) m⟩
/-- nodes more than are gone through. -/
def vast8 (l : List Nd) : Bool := decide (60 < l.length) || l.any fun x => decide (100 < x.words.length)
theorem vast8_no {l : List Nd} (h : vast8 l = false) : l.length ≤ 60 ∧ ∀ y ∈ l, y.words.length ≤ 100 := by
  unfold vast8 at h
  simp only [Bool.or_eq_false_iff, decide_eq_false_iff_not, List.any_eq_false, decide_eq_true_eq] at h
  exact ⟨by omega, fun y hy => by have := h.2 y hy; omega⟩
theorem vast8_of {l : List Nd} (h1 : l.length ≤ 60) (h2 : ∀ (j : Nat) (x : Nd), j < l.length → l[j]? = some x → x.words.length ≤ 100) : vast8 l = false := by
  unfold vast8
  simp only [Bool.or_eq_false_iff, decide_eq_false_iff_not, List.any_eq_false, decide_eq_true_eq]
  refine ⟨by omega, fun y hy => ?_⟩
  obtain ⟨j, hj, rfl⟩ := List.getElem_of_mem hy
  have := h2 j _ hj (List.getElem?_eq_getElem hj)
  omega
set_option maxHeartbeats 2000000 in
set_option maxRecDepth 100000 in
theorem vast8_to {l : List Nd} {v : Bool} (hv : vast8 l = v) {A : Option Addr} {n ca : Nat} {w : World} (h : Sees w A n l) : Calls Try.prog 6 #[.slice A n ca] w fun e w' => e = .returned (.bool v) ∧ w = w' := by
  have hla := h.len
  have hbd := h.bound
  have HA := Lib.hid h
  have HV := Lib.hid hv
  clear h hv
  by_cases hbig : 60 < n
  · have HW := Lib.hid (show v = true by rw [← HV.out]; unfold vast8; rw [Bool.or_eq_true]; left; simp; omega)
    have h1 : (60 : Int) < (n : Int) := by omega
    go_enter Try.func6, Try.ntmps6
    go_wp2_with fail
    go_ret
    exact ⟨ret_bool HW.out.symm, rfl⟩
  have h1 : (n : Int) ≤ 60 := by omega
  go_enter Try.func6, Try.ntmps6
  go_wp2_with fail
  go_loopw [3] (fun i wr => ∃ k : Nat, k ≤ n ∧ i = .int .i64 k ∧ (∀ (j : Nat) (x : Nd), j < k → l[j]? = some x → x.words.length ≤ 100) ∧ wr = w) (fun i _ => n - (intOf i).toNat)
  case atStart => exact ⟨0, by omega, rfl, fun j x hj => by omega, rfl⟩
  case round =>
    obtain ⟨k, hk, rfl, hall, rfl⟩ := hrel
    have HL := Lib.hid hall
    clear hall
    by_cases hlt : k < n
    · obtain ⟨b1, o1, m1, x1, rfl, hb1, e1, r1, t1⟩ := HA.out.at_ hlt
      have hk2 : (k : Int) < (n : Int) := by omega
      have c16 := r1 16 _ rfl
      have hw := t1.2.1
      have E1 := Lib.hid e1
      clear e1 r1 t1
      by_cases hv2 : 100 < m1.n
      · have h2 : (100 : Int) < (m1.n : Int) := by omega
        have HW := Lib.hid (show v = true by
          rw [← HV.out]; unfold vast8; rw [Bool.or_eq_true]; right
          rw [List.any_eq_true]
          exact ⟨x1, List.mem_of_getElem? E1.out, by simp; omega⟩)
        go_wp2_with fail
        go_ret
        exact ⟨ret_bool HW.out.symm, rfl⟩
      · have h2 : (m1.n : Int) ≤ 100 := by omega
        go_wp2_with fail
        go_roundw
        case rel => exact ⟨k + 1, by omega, by go_num, fun j x hj hx => by
          by_cases e : j = k
          · subst e
            have := E1.out
            rw [hx] at this
            injection this with this
            subst this
            omega
          · exact HL.out j x (by omega) hx, by first | rfl | trivial⟩
        case measure => simp [intOf]; omega
    · have hk2 : (n : Int) ≤ (k : Int) := by omega
      have HW := Lib.hid (show v = false by rw [← HV.out]; exact vast8_of (by omega) (fun j x hj => HL.out j x (by omega)))
      go_wp2_with fail
      go_ret
      exact ⟨ret_bool HW.out.symm, rfl⟩
/-- a row of numbers that can be read. -/
def IntsSeen (w : World) (zs : List Int) (e : Ending) (w' : World) : Prop := ∃ A n c, e = .returned (.slice A n c) ∧ n = zs.length ∧ Ints w' A n zs ∧ Below w.heap.size w w'
/-- and it lies in memory that is the call's own. -/
def IntsNew (w : World) (zs : List Int) (e : Ending) (w' : World) : Prop := ∃ A n c, e = .returned (.slice A n c) ∧ n = zs.length ∧ Ints w' A n zs ∧ Below w.heap.size w w' ∧ ∀ q, A = some q → w.heap.size ≤ q.block
theorem IntsNew.seen {w w' : World} {zs : List Int} {e : Ending} (h : IntsNew w zs e w') : IntsSeen w zs e w' := by
  obtain ⟨A, n, c, h1, h2, h3, h4, _⟩ := h
  exact ⟨A, n, c, h1, h2, h3, h4⟩
/-- rooms that can be read. -/
def RoomsSeen (w : World) (zs : List (Int × Int)) (e : Ending) (w' : World) : Prop := ∃ A n c, e = .returned (.slice A n c) ∧ n = zs.length ∧ Rows 2 encRm w' A n zs ∧ Below w.heap.size w w'
/-- what package tree is asked to say: of a document's nodes what the document says, of any others nothing. -/
def parentA (L : List Nd) (a : Int) : Int := if docB L then parentI L a else -1
def aboveA (L : List Nd) (a : Int) : List Int := if docB L then aboveI L a else []
def kidsA (L : List Nd) (a : Int) : List Int := if docB L && (decide (-1 ≤ a) && decide (a < (L.length : Int))) then kidsI L a else []
def holdsA (L : List Nd) (a b : Int) : Bool := docB L && holdsI L a b
def roomsA (L : List Nd) (W : Int) : List (Int × Int) := if docB L then roomsI L W else []
def I64 (a : Int) : Prop := -9223372036854775808 ≤ a ∧ a ≤ 9223372036854775807
structure TreeSays : Prop where
  parent : ∀ {L : List Nd} {a v : Int} {A : Option Addr} {n c : Nat} {w : World}, parentA L a = v → I64 a → PreV L w A n → Calls Try.prog 9 #[.slice A n c, .int .i64 a] w fun e w' => e = .returned (.int .i64 v) ∧ Below w.heap.size w w'
  above : ∀ {L : List Nd} {a : Int} {zs : List Int} {A : Option Addr} {n c : Nat} {w : World}, aboveA L a = zs → I64 a → PreV L w A n → Calls Try.prog 10 #[.slice A n c, .int .i64 a] w (IntsSeen w zs)
  kidsN : ∀ {L : List Nd} {a : Int} {zs : List Int} {A : Option Addr} {n c : Nat} {w : World}, kidsA L a = zs → I64 a → PreV L w A n → Calls Try.prog 11 #[.slice A n c, .int .i64 a] w (IntsNew w zs)
  holds : ∀ {L : List Nd} {a b : Int} {v : Bool} {A : Option Addr} {n c : Nat} {w : World}, holdsA L a b = v → I64 a → I64 b → PreV L w A n → Calls Try.prog 12 #[.slice A n c, .int .i64 a, .int .i64 b] w fun e w' => e = .returned (.bool v) ∧ Below w.heap.size w w'
  rooms : ∀ {L : List Nd} {W : Int} {zs : List (Int × Int)} {A : Option Addr} {n c : Nat} {w : World}, roomsA L W = zs → I64 W → PreV L w A n → Calls Try.prog 13 #[.slice A n c, .int .i64 W] w (RoomsSeen w zs)
theorem TreeSays.kids (H : TreeSays) {L : List Nd} {a : Int} {zs : List Int} {A : Option Addr} {n c : Nat} {w : World} (h : kidsA L a = zs) (ha : I64 a) (hp : PreV L w A n) : Calls Try.prog 11 #[.slice A n c, .int .i64 a] w (IntsSeen w zs) := (H.kidsN h ha hp).mono fun _ _ h => h.seen
theorem IntsOut.new {w w' : World} {zs : List Int} {e : Ending} (h : IntsOut w zs e w') : IntsNew w zs e w' := by
  obtain ⟨A, n, c, h1, h2, h3⟩ := h
  have hi := (ownsRow_cells h2).ints
  refine ⟨A, n, c, h1, hi.1.symm, hi, h3, fun q hq => ?_⟩
  subst hq
  exact owns_block h2 _ rfl
end Go.Proofs.Ytllloonfnbhoeaa
/- The program's package tree: Rooms. -/
namespace Go.Proofs.Ytllloonfnbhoeaa
open Go.RowKit
set_option linter.unusedVariables false
set_option linter.unusedSimpArgs false
theorem made_rooms (n : Nat) : madeCells #[.int .i64 0, .int .i64 0] (n * 2) = (List.replicate (2 * n) (Value.int .i64 0)).toArray := by
  apply Array.ext'
  simp only [madeCells]
  rw [List.eq_replicate_iff]
  refine ⟨by simp; omega, fun b hb => ?_⟩
  simp at hb
  obtain ⟨j, _, rfl⟩ := hb
  rcases Nat.mod_two_eq_zero_or_one j with h | h <;> simp [h]
theorem make_rooms (n : Nat) (hn : n ≤ 1000000) (w : World) : (Instr.makeSlice 30 (.int .i64 (n : Int)) (.int .i64 (n : Int))).run Try.prog w = .ok (.slice (some ⟨w.heap.size, 0, none⟩) n n) (w.alloc (.cells (List.replicate (2 * n) (Value.int .i64 0)).toArray 37)) := by
  obtain ⟨i0, hi0, hz0, hz1, hz2⟩ := info_parts room_info
  have h := run_make (P := Try.prog) w 30 37 i0 _ Try.underlying30 hi0 hz0 .i64 .i64 (n : Int) (n : Int) (by omega) (Int.le_refl _) (by rw [hz2]; omega) (by omega)
  rw [hz1] at h
  rw [h]
  show Result.ok _ (w.alloc (.cells (madeCells #[.int .i64 0, .int .i64 0] ((n : Int).toNat * 2)) _)) = _
  rw [Int.toNat_natCast, made_rooms]
theorem may_to {n : Int} {v : Bool} (hv : (decide (1 ≤ n) && decide (n ≤ 1099511627776)) = v) (w : World) : Calls Try.prog 30 #[.int .i64 n] w fun e w' => e = .returned (.bool v) ∧ w = w' := by
  rw [← hv]; exact may_any n w
set_option maxHeartbeats 4000000 in
set_option maxRecDepth 100000 in
theorem tRooms_to {L : List Nd} {W : Int} {zs : List (Int × Int)} (hv : roomsI (ordL L) W = zs) {A : Option Addr} {n c : Nat} {w : World} (h : PreV L w A n) : Calls Try.prog 13 #[.slice A n c, .int .i64 W] w (RoomsSeen w zs) := by
  have H := Lib.hid h
  clear h
  have hst : ∀ (a : Addr) (fn : Fn) (f c : Array Value) (m : Mode) (w : World), (store a (.func fn f c) m).run Try.prog w = stored Try.prog w a (.func fn f c) m := fun a fn f c m w => run_store _ w a _ m rfl
  unfold roomsI at hv
  by_cases hW : W < 1 ∨ maxX < W
  · rw [if_pos hW] at hv
    have HZ := Lib.hid hv
    have HM := Lib.hid (show (decide (1 ≤ W) && decide (W ≤ 1099511627776)) = false by
      unfold maxX at hW
      rw [Bool.and_eq_false_iff, decide_eq_false_iff_not, decide_eq_false_iff_not]
      omega)
    clear hv hW
    go_enter Try.func13, Try.ntmps13
    go_wp2_with fail
    refine (may_to HM.out _).mono ?_
    rintro e w1 ⟨rfl, rfl⟩
    go_wp2_with fail
    go_ret
    exact ⟨none, 0, 0, rfl, by rw [← HZ.out]; rfl, by rw [← HZ.out]; exact Rows.nil _ _, Below.refl _ _⟩
  rw [if_neg hW] at hv
  have hw1 : 1 ≤ W := by omega
  have hw2 : W ≤ maxX := by omega
  have HZ := Lib.hid hv
  have HM := Lib.hid (show (decide (1 ≤ W) && decide (W ≤ 1099511627776)) = true by
    unfold maxX at hw2
    rw [Bool.and_eq_true, decide_eq_true_eq, decide_eq_true_eq]
    omega)
  clear hv hW
  go_enter Try.func13, Try.ntmps13
  go_wp2_with fail
  refine (may_to HM.out _).mono ?_
  rintro e w1 ⟨rfl, rfl⟩
  go_wp2_with fail
  refine (tof_to H.out).mono ?_
  rintro e w1 ⟨A1, n1, c1, rfl, hp, hb⟩
  have HP := Lib.hid hp
  have HB := Lib.hid hb
  clear hp hb
  go_wp2_with fail
  refine (tmany_to (HP.out.1.below (show Below w1.heap.size w1 _ by go_grown))).mono ?_
  rintro e w2 ⟨rfl, rfl⟩
  have hmk := make_rooms n1 (by have := HP.out.2; omega)
  go_wp2_with fail
  clear hmk hst
  generalize hV : (((w1.alloc (.cells #[.slice A1 n1 c1] 50)).alloc (.cells (Array.replicate (2 * n1) (.int .i64 0)) 37)).alloc (.cells #[.slice (some ⟨w1.heap.size + 1, 0, none⟩) n1 n1] 30)).alloc (.cells #[(.func (.func 32) #[] #[.pointer (some ⟨w1.heap.size + 1 + 1, 0, none⟩), .pointer (some ⟨w1.heap.size, 0, none⟩), .pointer (some ⟨w1.heap.size + 1 + 1 + 1, 0, none⟩)])] 57) = V
  have HO := Lib.hid (show On w1 V by rw [← hV]; exact (((((Below.refl _ _).alloc (Nat.le_refl _) _).alloc (by simp) _).alloc (by simp; omega) _).alloc (by simp; omega) _))
  have hB0 : Box V w1.heap.size [.slice A1 n1 c1] := by rw [← hV]; exact (((Box.new _ [.slice A1 n1 c1] _).alloc _).alloc _).alloc _
  have hB1 : Box V (w1.heap.size + 1) (List.replicate (2 * n1) (.int .i64 0)) := by rw [← hV]; exact ((box_new _ (List.replicate (2 * n1) (.int .i64 0)) _ _ (by simp) _ (by simp)).alloc _).alloc _
  have hB2 : Box V (w1.heap.size + 1 + 1) [.slice (some ⟨w1.heap.size + 1, 0, none⟩) n1 n1] := by rw [← hV]; exact (box_new _ [.slice (some ⟨w1.heap.size + 1, 0, none⟩) n1 n1] _ _ (by simp) _ rfl).alloc _
  have hB3 : Box V (w1.heap.size + 1 + 1 + 1) [(.func (.func 32) #[] #[.pointer (some ⟨w1.heap.size + 1 + 1, 0, none⟩), .pointer (some ⟨w1.heap.size, 0, none⟩), .pointer (some ⟨w1.heap.size + 1 + 1 + 1, 0, none⟩)])] := by rw [← hV]; exact box_new _ [(.func (.func 32) #[] #[.pointer (some ⟨w1.heap.size + 1 + 1, 0, none⟩), .pointer (some ⟨w1.heap.size, 0, none⟩), .pointer (some ⟨w1.heap.size + 1 + 1 + 1, 0, none⟩)])] _ _ (by simp) _ rfl
  have HE := Lib.hid (show FillEnv V (w1.heap.size + 1 + 1) w1.heap.size (w1.heap.size + 1 + 1 + 1) (w1.heap.size + 1) A1 n1 c1 from ⟨hB2.2.2 0 _ rfl, hB0.2.2 0 _ rfl, hB3.2.2 0 _ rfl, by omega, by omega, by omega⟩)
  have HB1 := Lib.hid (show Box V (w1.heap.size + 1) (rmsV (ordL L) W 0 n1) by rw [rmsV_zero]; exact hB1)
  have HLen := Lib.hid HP.out.1.len
  have hnest : Nested (ordL L) := (forest_iff_nested _).1 (ordL_doc L).2
  have HINN := Lib.hid (show innerI (ordL L) (-1) = (0, (n1 : Int)) by rw [innerI_one, HLen.out])
  have HK0 := Lib.hid (show KidAt (ordL L) (-1) (n1 : Int) 0 by
    have := HLen.out
    by_cases h0 : 0 < n1
    · exact .inr ⟨by omega, (parI_none (by omega)).2 first_none, by omega⟩
    · exact .inl ⟨by omega, kidsFrom_end (by omega)⟩)
  clear hV hB0 hB1 hB2 hB3
  go_loopw [8] (fun at' wr => ∃ (j : Nat), at' = .int .i64 (j : Int) ∧ j ≤ n1 ∧ Hid (KidAt (ordL L) (-1) (n1 : Int) j) ∧ Hid (V.grownBy wr (some (w1.heap.size + 1))) ∧ Hid (Box wr (w1.heap.size + 1) (rmsV (ordL L) W j n1))) (fun at' _ => n1 - (intOf at').toNat)
  case atStart => exact ⟨0, rfl, Nat.zero_le _, HK0, Lib.hid (grown_of_belowF (Below.refl _ _) _), HB1⟩
  case round =>
    obtain ⟨j, rfl, hjn, HK, HG, HBj⟩ := hrel
    have HEq := Lib.hid (HE.out.kept HG.out)
    have HOq := Lib.hid (on_grown HO.out (by omega) HG.out)
    have cO := HEq.out.2.1
    have cF := HEq.out.2.2.1
    have cR := HEq.out.1
    by_cases hlt : j < n1
    · have hlt2 : (j : Int) < (n1 : Int) := by omega
      obtain ⟨hpj, hjL⟩ : parentI (ordL L) (j : Int) = -1 ∧ j < (ordL L).length := by
        rcases HK.out with ⟨h1, _⟩ | ⟨_, h2, h3⟩
        · omega
        · exact ⟨h2, h3⟩
      have hy : (ordL L)[j]? = some ((ordL L)[j]'hjL) := List.getElem?_eq_getElem _
      obtain ⟨y, hyy⟩ : ∃ y, (ordL L)[j]'hjL = y := ⟨_, rfl⟩
      rw [hyy] at hy
      obtain ⟨e2, he2, hje, hee, _, hke2⟩ := kidAt_step hnest HINN.out hy hpj hlt2
      have HY := Lib.hid hy
      have HYE := Lib.hid he2
      have HK2 := Lib.hid hke2
      have HRT := Lib.hid (room_top (w := W) ((parI_none hjL).1 hpj))
      clear hy hyy he2 hke2 hpj hjL cR
      go_wp2_with fail
      refine (tmany_to (HP.out.1.below HOq.out)).mono ?_
      rintro e w5 ⟨rfl, rfl⟩
      go_wp2_with fail
      refine (fill_all (ordL_doc L) hw1 hw2 w1 HP.out.1 HP.out.2 _ _ _ (w1.heap.size + 1) (by omega) (e2 - j) j e2 y _ _ _ (Nat.le_refl _) HY.out HYE.out HRT.out HOq.out HEq.out HBj.out).mono ?_
      rintro e w6 ⟨rfl, hg, hb⟩
      have HG6 := Lib.hid (grown_two HG.out hg)
      have HB6 := Lib.hid hb
      clear hg hb cO cF
      go_wp2_with fail
      go_roundw
      case rel => exact ⟨e2, rfl, by omega, HK2, HG6, HB6⟩
      case measure => simp [intOf] <;> omega
    · obtain rfl : j = n1 := by omega
      go_wp2_with fail
      refine (tmany_to (HP.out.1.below HOq.out)).mono ?_
      rintro e w5 ⟨rfl, rfl⟩
      go_wp2_with fail
      go_ret
      refine ⟨_, _, _, rfl, ?_, ?_, below_then HB.out HOq.out⟩
      · rw [← HZ.out, roomsTo_len, HLen.out]
      · rw [← HZ.out, HLen.out]
        refine ⟨roomsTo_len _ _ _, by have := HP.out.2; omega, fun _ => ⟨w1.heap.size + 1, 0, rfl, HBj.out.lt, fun i x hx j' v hv => ?_⟩⟩
        rw [Nat.zero_add]
        exact HBj.out.2.2 (i * 2 + j') v (by rw [rmsV_all]; exact flat_get encRm_len _ i x j' v hx hv)
end Go.Proofs.Ytllloonfnbhoeaa
/- The program's package tree: Parent, Above, Kids, Holds. -/
namespace Go.Proofs.Ytllloonfnbhoeaa
open Go.RowKit Go.Shelf
set_option linter.unusedVariables false
set_option linter.unusedSimpArgs false
attribute [local go_sem] Oper.semAt_some
theorem tabove_in (A : Option Addr) (m c : Nat) (a : Int) (w : World) : Calls Try.prog 26 #[.agg #[.slice A m c], .int .i64 a] w fun e w' => e = .returned (.func (.func 44) #[] #[.pointer (some ⟨w.heap.size, 0, none⟩), .pointer (some ⟨w.heap.size + 1, 0, none⟩)]) ∧ w' = (w.alloc (.cells #[.slice A m c] 50)).alloc (.cells #[.int .i64 a] 3) := by
  go_enter Try.func26, Try.ntmps26
  go_wp2_with fail
  go_ret
  exact ⟨rfl, rfl⟩
theorem tkids_in (A : Option Addr) (m c : Nat) (a : Int) (w : World) : Calls Try.prog 28 #[.agg #[.slice A m c], .int .i64 a] w fun e w' => e = .returned (.func (.func 47) #[] #[.pointer (some ⟨w.heap.size, 0, none⟩), .pointer (some ⟨w.heap.size + 1, 0, none⟩)]) ∧ w' = (w.alloc (.cells #[.slice A m c] 50)).alloc (.cells #[.int .i64 a] 3) := by
  go_enter Try.func28, Try.ntmps28
  go_wp2_with fail
  go_ret
  exact ⟨rfl, rfl⟩
theorem two_boxes (w : World) (u v : Value) (t1 t2 : TypeId) : ((w.alloc (.cells #[u] t1)).alloc (.cells #[v] t2)).heap[w.heap.size]? = some (.cells #[u] t1) ∧ ((w.alloc (.cells #[u] t1)).alloc (.cells #[v] t2)).heap[w.heap.size + 1]? = some (.cells #[v] t2) ∧ On w ((w.alloc (.cells #[u] t1)).alloc (.cells #[v] t2)) ∧ ((w.alloc (.cells #[u] t1)).alloc (.cells #[v] t2)).heap.size = w.heap.size + 2 := by
  refine ⟨(Below.heap_alloc _ _ _ (by simp)).trans (World.alloc_heap_new w _), ?_, ((Below.refl _ w).alloc (Nat.le_refl _) _).alloc (by simp) _, by simp⟩
  have := World.alloc_heap_new (w.alloc (.cells #[u] t1)) (.cells #[v] t2)
  rwa [World.size_alloc] at this
theorem ints_out {w w1 w2 : World} {xs : List Int} {v : Value} (hb : Below w.heap.size w w1) (h : w2.ownsRow w1.heap.size 3 1 v xs.length (xs.map (Value.int .i64))) (hb2 : Below w1.heap.size w1 w2) : IntsOut w xs (.returned v) w2 := by
  obtain ⟨A, c, rfl⟩ := ownsRow_form h
  exact ⟨A, xs.length, c, rfl, owns_up h hb.size, below_then hb hb2⟩
set_option maxRecDepth 100000 in
set_option maxHeartbeats 2000000 in
theorem tAbove_to {L : List Nd} {a : Int} {A : Option Addr} {n c : Nat} {w : World} (h : PreV L w A n) : Calls Try.prog 10 #[.slice A n c, .int .i64 a] w (IntsOut w (aboveI (ordL L) a)) := by
  have H := Lib.hid h
  clear h
  go_enter Try.func10, Try.ntmps10
  go_wp2_with fail
  refine (tof_to H.out).mono ?_
  rintro e w1 ⟨A1, n1, c1, rfl, hp, hb⟩
  have HP := Lib.hid hp
  have HB := Lib.hid hb
  clear hp hb
  go_wp2_with fail
  refine (tabove_in _ _ _ _ _).mono ?_
  rintro e w2 ⟨rfl, hw2⟩
  obtain ⟨g1, g2, g3, g4⟩ := two_boxes w1 (.slice A1 n1 c1) (.int .i64 a) 50 3
  rw [← hw2] at g1 g2 g3 g4
  have HC := Lib.hid (collect_to 44 #[.pointer (some ⟨w1.heap.size, 0, none⟩), .pointer (some ⟨w1.heap.size + 1, 0, none⟩)] (enters_of Try.func44 (by kernel_rfl) rfl) _ _ 100001 w2.heap.size (by omega) w2 w2 (Nat.le_refl _) (Below.refl _ _)
    (above_stops w1.heap.size w2 ((forest_iff_nested _).1 (ordL_doc L).2) HP.out.2 a (HP.out.1.below g3) g1 g2))
  have HO := Lib.hid (below_then HB.out g3)
  clear hw2 g1 g2 g3 g4
  go_wp2_with fail
  refine HC.out.mono ?_
  rintro e w3 ⟨xs, v, rfl, rfl, h2, h3⟩
  have HI := Lib.hid (ints_out HO.out h2 h3)
  clear h2 h3
  go_wp2_with fail
  go_ret
  exact HI.out
set_option maxRecDepth 100000 in
set_option maxHeartbeats 2000000 in
theorem tKids_to {L : List Nd} {a : Int} {A : Option Addr} {n c : Nat} {w : World} (h : PreV L w A n) : Calls Try.prog 11 #[.slice A n c, .int .i64 a] w (IntsOut w (kidsI (ordL L) a)) := by
  have H := Lib.hid h
  clear h
  go_enter Try.func11, Try.ntmps11
  go_wp2_with fail
  refine (tof_to H.out).mono ?_
  rintro e w1 ⟨A1, n1, c1, rfl, hp, hb⟩
  have HP := Lib.hid hp
  have HB := Lib.hid hb
  clear hp hb
  go_wp2_with fail
  refine (tkids_in _ _ _ _ _).mono ?_
  rintro e w2 ⟨rfl, hw2⟩
  obtain ⟨g1, g2, g3, g4⟩ := two_boxes w1 (.slice A1 n1 c1) (.int .i64 a) 50 3
  rw [← hw2] at g1 g2 g3 g4
  have HC := Lib.hid (collect_to 47 #[.pointer (some ⟨w1.heap.size, 0, none⟩), .pointer (some ⟨w1.heap.size + 1, 0, none⟩)] (enters_of Try.func47 (by kernel_rfl) rfl) _ _ 100001 w2.heap.size (by omega) w2 w2 (Nat.le_refl _) (Below.refl _ _)
    (kids_stops w1.heap.size w2 ((forest_iff_nested _).1 (ordL_doc L).2) HP.out.2 a (HP.out.1.below g3) g1 g2))
  have HO := Lib.hid (below_then HB.out g3)
  clear hw2 g1 g2 g3 g4
  go_wp2_with fail
  refine HC.out.mono ?_
  rintro e w3 ⟨xs, v, rfl, rfl, h2, h3⟩
  have HI := Lib.hid (ints_out HO.out h2 h3)
  clear h2 h3
  go_wp2_with fail
  go_ret
  exact HI.out
set_option maxRecDepth 100000 in
set_option maxHeartbeats 2000000 in
theorem tHolds_to {L : List Nd} {a b : Int} {v : Bool} (hv : holdsI (ordL L) a b = v) {A : Option Addr} {n c : Nat} {w : World} (h : PreV L w A n) : Calls Try.prog 12 #[.slice A n c, .int .i64 a, .int .i64 b] w fun e w' => e = .returned (.bool v) ∧ Below w.heap.size w w' := by
  have H := Lib.hid h
  have HV := Lib.hid hv
  clear h hv
  go_enter Try.func12, Try.ntmps12
  go_wp2_with fail
  refine (tof_to H.out).mono ?_
  rintro e w1 ⟨A1, n1, c1, rfl, hp, hb⟩
  have HP := Lib.hid hp
  have HB := Lib.hid hb
  clear hp hb
  go_wp2_with fail
  refine (tholds_to ((forest_iff_nested _).1 (ordL_doc L).2) HV.out HP.out.1 HP.out.2).mono ?_
  rintro e w2 ⟨rfl, hb⟩
  have HB2 := Lib.hid (below_then HB.out hb)
  clear hb
  go_wp2_with fail
  go_ret
  exact ⟨rfl, HB2.out⟩
/-- between two rounds of Parent's loop. -/
def ParI (w : World) (pre : List Int) (W : World) : Prop := pre = [] ∧ Boxed W w.heap.size 3 (.int .i64 0) ∧ Below w.heap.size w W
/-- where a round has returned. -/
def ParX (w : World) (c : Code) (pre : List Int) (W : World) : Prop := c = .ret ∧ ∃ x, pre = [x] ∧ Boxed W w.heap.size 3 (.int .i64 x) ∧ Below w.heap.size w W
theorem boxed_kept {B k : Nat} {t : TypeId} {v : Value} {X Y : World} {row : Option Nat} (hs : Boxed X k t v) (hg : X.grownBy Y row) (hr : ∀ r, row = some r → B ≤ r ∧ ∃ o : Obj, X.heap[r]? = some o ∧ o.isCells = false) : Boxed Y k t v :=
  hs.kept hg (fun e' => by
    obtain ⟨_, o, ho, hc⟩ := hr k e'.symm
    rw [show X.heap[k]? = _ from hs] at ho; cases ho; cases hc)
theorem parI_own {w : World} {B : Nat} (hB : w.heap.size ≤ B) : OwnFrom B (ParI w) := fun pre X Y row ⟨h1, h2, h3⟩ hg hr =>
  ⟨h1, boxed_kept h2 hg hr, ownFrom_below (β := Unit) (w₀ := w) (Nat.le_refl _) hB () X Y row h3 hg hr⟩
theorem parX_own {w : World} {B : Nat} (hB : w.heap.size ≤ B) (c : Code) : OwnFrom B (ParX w c) := fun pre X Y row ⟨h0, x, h1, h2, h3⟩ hg hr =>
  ⟨h0, x, h1, boxed_kept h2 hg hr, ownFrom_below (β := Unit) (w₀ := w) (Nat.le_refl _) hB () X Y row h3 hg hr⟩
set_option maxRecDepth 100000 in
set_option maxHeartbeats 4000000 in
theorem tParent_in {L : List Nd} {a : Int} {A : Option Addr} {m c : Nat} {w : World} (h : PreV L w A m) : CallsIn Fence.wide 9 Try.prog 9 #[.slice A m c, .int .i64 a] w fun e w' => e = .returned (.int .i64 (parentI (ordL L) a)) ∧ Below w.heap.size w w' := by
  have H := Lib.hid h
  clear h
  refine callsIn_of_wp_marks Try.func9 rfl trivial ?_ rfl
  simp only [Try.ntmps9, List.size_toArray, List.length_cons, List.length_nil, Nat.reduceAdd, Nat.reduceSub, Array.replicate_succ, Array.replicate_zero, List.push_toArray, List.append_toArray, List.nil_append, List.cons_append]
  gi_wp2_with (first
    | (refine ⟨trivial, ?_⟩; gi_at_call 25; refine (callsIn_wide.2 (tof_to (H.out.below (show Below w.heap.size w _ by go_grown)))).mono ?_; rintro e w1 ⟨A1, n1, c1, rfl, hp, hb⟩; have HP := Lib.hid hp; have HB := Lib.hid hb; clear hp hb)
    | (refine ⟨trivial, ?_⟩; gi_at_call 26; refine (callsIn_wide.2 (tabove_in _ _ _ _ _)).mono ?_; rintro e w2 ⟨rfl, hw2⟩))
  obtain ⟨g1, g2, g3, g4⟩ := two_boxes w1 (.slice A1 n1 c1) (.int .i64 a) 50 3
  rw [← hw2] at g1 g2 g3 g4 ⊢
  have hB1 := HB.out
  have hs0 : (w.alloc (.cells #[.int .i64 0] 3)).heap.size = w.heap.size + 1 := by simp
  have hB2 : Below w.heap.size w w2 := ((Below.refl _ w).alloc (Nat.le_refl _) _).trans ((below_then hB1 g3).mono (by omega))
  have hl2 : w.heap.size + 1 ≤ w1.heap.size := by have := hB1.size; omega
  have hv0 : Boxed w2 w.heap.size 3 (.int .i64 0) := ((below_then hB1 g3).block w.heap.size (by omega)).trans (Boxed.new w 3 (.int .i64 0))
  have HPA := Lib.hid (show ∀ zs, aboveI (ordL L) a = zs → parentI (ordL L) a = zs.headD (-1) from fun zs h => by unfold parentI; rw [h])
  have HST := Lib.hid (above_stops w1.heap.size w2 ((forest_iff_nested _).1 (ordL_doc L).2) HP.out.2 a (HP.out.1.below g3) g1 g2)
  clear hw2 hB1 g1 g2 g3 HB
  refine wpIn_rangeFunc_ownF (F := Fence.wide) rfl (by omega) (gf := 44) (lb := #[.pointer (some ⟨w1.heap.size, 0, none⟩), .pointer (some ⟨w1.heap.size + 1, 0, none⟩)]) rfl trivial (enters_of Try.func44 (by kernel_rfl) rfl)
    (HST.out 8) belowK_t (belowK_b (Nat.le_refl _)) (Below.refl _ _) (fun _ => rfl) (ParI w) (ParX w) (parI_own (by omega)) (fun c => parX_own (by omega) c) ⟨rfl, hv0, hB2⟩
    (fun x => { tmps := #[.slice A m c, .int .i64 a, undef, undef, .pointer (some ⟨w.heap.size, 0, none⟩), .int .i64 x, .slice A m c, .agg #[.slice A1 n1 c1], .int .i64 a, .func (.func 44) #[] #[.pointer (some ⟨w1.heap.size, 0, none⟩), .pointer (some ⟨w1.heap.size + 1, 0, none⟩)], .int .i64 x, undef], defers := [] }) ?assign ?body ?done ?stop
  case assign =>
    intro l x W K hK
    gi_wp2
    exact hK
  case body =>
    rintro l pre x W ⟨rfl, hv, hB⟩ _
    have hc := hv.cell
    have hf := hv.frozen
    gi_wp2
    exact ⟨KeepsOthers.setCell _ _ _, rfl, x, rfl, hv.set _, hB.setCell (Nat.le_refl _) _⟩
  case done =>
    rintro D xs W hD hxs ⟨hnil, hv, hB⟩ hK
    have hc := hv.cell
    have hf := hv.frozen
    have HPP := Lib.hid (HPA.out _ (show aboveI (ordL L) a = [] by rw [← hxs, hnil]))
    clear hxs hnil
    gi_wp2
    have hD0 : w.heap.size ≠ D := by omega
    have e0 : (W.setCell ⟨w.heap.size, 0, none⟩ (.int .i64 (-1))).heap[D]? = some (.deferred (some [])) := (Below.heap_setCell _ _ _ D (by simpa using hD0.symm)).trans hK
    have e1 : ((W.setCell ⟨w.heap.size, 0, none⟩ (.int .i64 (-1))).putObj D (.deferred none)).cell? ⟨w.heap.size, 0, none⟩ = some (.int .i64 (-1)) := by
      have := (hv.set (.int .i64 (-1))).kept (grownBy_putObj' _ D (.deferred none)) (fun e => hD0 (by cases e; rfl))
      exact this.cell
    refine ⟨by simp, .inl ⟨_, _, rfl, run_takeDeferred e0, ?_⟩⟩
    refine ⟨.int .i64 (-1), by simp [results, Try.results9, go_sem, e1], ?_⟩
    exact ⟨ret_int HPP.out.symm, (hB.setCell (Nat.le_refl _) _).grown (grownBy_putObj' _ _ _) (by have := hB.size; simp; omega) (fun k e => by cases e; omega)⟩
  case stop =>
    rintro D c2 pre W hD hpre ⟨rfl, x, rfl, hv, hB⟩ hK
    have hD0 : w.heap.size ≠ D := by omega
    have HPP := Lib.hid (show parentI (ordL L) a = x by
      obtain ⟨r, hr⟩ := hpre
      rw [HPA.out _ hr.symm]; rfl)
    clear hpre
    have e1 : (W.putObj D (.deferred none)).cell? ⟨w.heap.size, 0, none⟩ = some (.int .i64 x) := (hv.kept (grownBy_putObj' _ D (.deferred none)) (fun e => hD0 (by cases e; rfl))).cell
    gi_wp2
    refine ⟨by simp, .inl ⟨_, _, rfl, run_takeDeferred hK, ?_⟩⟩
    refine ⟨.int .i64 x, by simp [results, Try.results9, go_sem, e1], ?_⟩
    exact ⟨ret_int HPP.out.symm, hB.grown (grownBy_putObj' _ _ _) (by have := hB.size; omega) (fun k e => by cases e; omega)⟩
theorem tParent_to {L : List Nd} {a v : Int} (hv : parentI (ordL L) a = v) {A : Option Addr} {m c : Nat} {w : World} (h : PreV L w A m) : Calls Try.prog 9 #[.slice A m c, .int .i64 a] w fun e w' => e = .returned (.int .i64 v) ∧ Below w.heap.size w w' := by
  subst hv
  exact callsIn_wide.1 (tParent_in h)
end Go.Proofs.Ytllloonfnbhoeaa
/- Stage 8's laws: the chapter's examples hold, in any world, if package tree says what it is asked. (Written by program: tools/drafts/genawake8.py.) -/
namespace Go.Proofs.Ytllloonfnbhoeaa
open Go.RowKit
set_option linter.unusedVariables false
set_option linter.unusedSimpArgs false
def doc8 : List Nd := [⟨1, 4, ⟨0, 0, 0, 0, 5, 2, 2, 0, 0, 0, 0, 0⟩, 0, 0, [], 0, 0, 0⟩, ⟨2, 1, .none, 10, 2, [30], 0, 0, 0⟩, ⟨1, 2, ⟨0, 0, 0, 0, 60, 2, 2, 0, 0, 0, 0, 0⟩, 0, 0, [], 0, 0, 0⟩, ⟨3, 1, .none, 0, 0, [], 0, 3, 4⟩, ⟨3, 1, .none, 0, 0, [], 0, 1, 1⟩]
theorem eval8 : evalF ⟨#[91, 105, 53, 32, 40, 49, 48, 32, 50, 32, 51, 48, 41, 91, 105, 54, 48, 32, 123, 51, 32, 52, 125, 93, 93, 123, 49, 32, 49, 125]⟩ = some (some doc8, 0) := by show evalF ⟨#[91, 105, 53, 32, 40, 49, 48, 32, 50, 32, 51, 48, 41, 91, 105, 54, 48, 32, 123, 51, 32, 52, 125, 93, 93, 123, 49, 32, 49, 125]⟩ = _; decide +kernel
theorem d8p0 : parentA doc8 0 = -1 := by decide +kernel
theorem d8p3 : parentA doc8 3 = 2 := by decide +kernel
theorem d8p4 : parentA doc8 4 = -1 := by decide +kernel
theorem d8p9 : parentA doc8 9 = -1 := by decide +kernel
theorem d8a3 : aboveA doc8 3 = [2, 0] := by decide +kernel
theorem d8k0 : kidsA doc8 0 = [1, 2] := by decide +kernel
theorem d8km : kidsA doc8 (-1) = [0, 4] := by decide +kernel
theorem d8h03 : holdsA doc8 0 3 = true := by decide +kernel
theorem d8h30 : holdsA doc8 3 0 = false := by decide +kernel
theorem d8h22 : holdsA doc8 2 2 = true := by decide +kernel
theorem d8r100 : roomsA doc8 100 = [(0, 100), (5, 90), (5, 90), (65, 1), (0, 100)] := by decide +kernel
theorem ints_lit (w : World) (zs : List Int) (m : Nat) (t : TypeId) (n : Nat) (hn : n = w.heap.size) (cs : Array Value) (hcs : cs = (zs.map (Value.int .i64)).toArray) (hm : zs.length = m) (hm2 : m ≤ 1000) : Ints (w.alloc (.cells cs t)) (some ⟨n, 0, none⟩) m zs := by
  subst hn hcs hm
  have hc : Cells (w.alloc (.cells (zs.map (Value.int .i64)).toArray t)) (some ⟨w.heap.size, 0, none⟩) zs.length 1 (zs.map (Value.int .i64)) := ⟨by simp, by omega, fun _ => ⟨w.heap.size, 0, rfl, by simp, fun j u hu => by
    have := (Box.new w (zs.map (Value.int .i64)) t).2.2 j u hu
    rw [Nat.zero_add]; exact this⟩⟩
  exact hc.ints
theorem rooms_lit (w : World) (zs : List (Int × Int)) (m : Nat) (t : TypeId) (n : Nat) (hn : n = w.heap.size) (cs : Array Value) (hcs : cs = (zs.flatMap encRm).toArray) (hm : zs.length = m) (hm2 : m ≤ 1000) : Rows 2 encRm (w.alloc (.cells cs t)) (some ⟨n, 0, none⟩) m zs := by
  subst hn hcs hm
  refine ⟨rfl, by omega, fun _ => ⟨_, _, rfl, by simp, fun i x hx j v hv => ?_⟩⟩
  rw [Nat.zero_add]
  exact (Box.new w (zs.flatMap encRm) t).2.2 _ _ (flat_get encRm_len zs i x j v hx hv)
set_option maxHeartbeats 8000000 in
set_option maxRecDepth 100000 in
theorem tawake_any (H : TreeSays) (w : World) : Calls Try.prog 7 #[] w fun e w' => e = .returned (.bool true) ∧ Below w.heap.size w w' := by
  have HH := Lib.hid H
  clear H
  go_enter Try.func7, Try.ntmps7
  go_wp2_with fail
  refine (rof_ok (evalF_ok eval8) _ (by decide)).mono ?_
  rintro e w0 ⟨A, n, c, rfl, hN, hb⟩
  have hn1 : n = 5 := by rw [← hN.sees.len]; rfl
  subst hn1
  have HP := Lib.hid (show PreV doc8 w0 A 5 from ⟨hN.sees, by decide⟩)
  have HB := Lib.hid hb
  have hsz := hb.size
  clear hN hb
  go_wp2_with fail
  refine (HH.out.parent d8p0 ⟨by decide, by decide⟩ HP.out).mono ?_
  rintro e w1 ⟨rfl, hb⟩
  have HB := Lib.hid (below_then HB.out hb)
  have HP := Lib.hid (HP.out.below hb)
  have hsz := hb.size
  clear hb
  go_wp2_with fail
  refine (HH.out.parent d8p3 ⟨by decide, by decide⟩ HP.out).mono ?_
  rintro e w2 ⟨rfl, hb⟩
  have HB := Lib.hid (below_then HB.out hb)
  have HP := Lib.hid (HP.out.below hb)
  have hsz := hb.size
  clear hb
  go_wp2_with fail
  refine (HH.out.parent d8p4 ⟨by decide, by decide⟩ HP.out).mono ?_
  rintro e w3 ⟨rfl, hb⟩
  have HB := Lib.hid (below_then HB.out hb)
  have HP := Lib.hid (HP.out.below hb)
  have hsz := hb.size
  clear hb
  go_wp2_with fail
  refine (HH.out.parent d8p9 ⟨by decide, by decide⟩ HP.out).mono ?_
  rintro e w4 ⟨rfl, hb⟩
  have HB := Lib.hid (below_then HB.out hb)
  have HP := Lib.hid (HP.out.below hb)
  have hsz := hb.size
  clear hb
  go_wp2_with fail
  refine (HH.out.above d8a3 ⟨by decide, by decide⟩ HP.out).mono ?_
  rintro e w5 ⟨A5, n5, c5, rfl, hm, hi, hb⟩
  have HI := Lib.hid hi
  have HB := Lib.hid (below_then HB.out hb)
  have HP := Lib.hid (HP.out.below hb)
  clear hm hi hb
  go_wp2_with fail
  have hal : Below w5.heap.size w5 (w5.alloc (.cells (([2, 0] : List Int).map (Value.int .i64)).toArray 3)) := (Below.refl _ _).alloc (Nat.le_refl _) _
  have HB := Lib.hid (below_then HB.out hal)
  have HP := Lib.hid (HP.out.below hal)
  have HI := Lib.hid (HI.out.below hal rfl)
  refine (vints_same HI.out (ints_lit _ [2, 0] _ _ _ rfl _ rfl rfl (by decide))).mono ?_
  rintro e w6 ⟨rfl, hb⟩
  have HB := Lib.hid (below_then HB.out hb)
  have HP := Lib.hid (HP.out.below hb)
  have hsz := hb.size
  clear hb hal
  go_wp2_with fail
  refine (HH.out.kids d8k0 ⟨by decide, by decide⟩ HP.out).mono ?_
  rintro e w7 ⟨A7, n7, c7, rfl, hm, hi, hb⟩
  have HI := Lib.hid hi
  have HB := Lib.hid (below_then HB.out hb)
  have HP := Lib.hid (HP.out.below hb)
  clear hm hi hb
  go_wp2_with fail
  have hal : Below w7.heap.size w7 (w7.alloc (.cells (([1, 2] : List Int).map (Value.int .i64)).toArray 3)) := (Below.refl _ _).alloc (Nat.le_refl _) _
  have HB := Lib.hid (below_then HB.out hal)
  have HP := Lib.hid (HP.out.below hal)
  have HI := Lib.hid (HI.out.below hal rfl)
  refine (vints_same HI.out (ints_lit _ [1, 2] _ _ _ rfl _ rfl rfl (by decide))).mono ?_
  rintro e w8 ⟨rfl, hb⟩
  have HB := Lib.hid (below_then HB.out hb)
  have HP := Lib.hid (HP.out.below hb)
  have hsz := hb.size
  clear hb hal
  go_wp2_with fail
  refine (HH.out.kids d8km ⟨by decide, by decide⟩ HP.out).mono ?_
  rintro e w9 ⟨A9, n9, c9, rfl, hm, hi, hb⟩
  have HI := Lib.hid hi
  have HB := Lib.hid (below_then HB.out hb)
  have HP := Lib.hid (HP.out.below hb)
  clear hm hi hb
  go_wp2_with fail
  have hal : Below w9.heap.size w9 (w9.alloc (.cells (([0, 4] : List Int).map (Value.int .i64)).toArray 3)) := (Below.refl _ _).alloc (Nat.le_refl _) _
  have HB := Lib.hid (below_then HB.out hal)
  have HP := Lib.hid (HP.out.below hal)
  have HI := Lib.hid (HI.out.below hal rfl)
  refine (vints_same HI.out (ints_lit _ [0, 4] _ _ _ rfl _ rfl rfl (by decide))).mono ?_
  rintro e w10 ⟨rfl, hb⟩
  have HB := Lib.hid (below_then HB.out hb)
  have HP := Lib.hid (HP.out.below hb)
  have hsz := hb.size
  clear hb hal
  go_wp2_with fail
  refine (HH.out.holds d8h03 ⟨by decide, by decide⟩ ⟨by decide, by decide⟩ HP.out).mono ?_
  rintro e w11 ⟨rfl, hb⟩
  have HB := Lib.hid (below_then HB.out hb)
  have HP := Lib.hid (HP.out.below hb)
  have hsz := hb.size
  clear hb
  go_wp2_with fail
  refine (HH.out.holds d8h30 ⟨by decide, by decide⟩ ⟨by decide, by decide⟩ HP.out).mono ?_
  rintro e w12 ⟨rfl, hb⟩
  have HB := Lib.hid (below_then HB.out hb)
  have HP := Lib.hid (HP.out.below hb)
  have hsz := hb.size
  clear hb
  go_wp2_with fail
  refine (HH.out.holds d8h22 ⟨by decide, by decide⟩ ⟨by decide, by decide⟩ HP.out).mono ?_
  rintro e w13 ⟨rfl, hb⟩
  have HB := Lib.hid (below_then HB.out hb)
  have HP := Lib.hid (HP.out.below hb)
  have hsz := hb.size
  clear hb
  go_wp2_with fail
  refine (HH.out.rooms d8r100 ⟨by decide, by decide⟩ HP.out).mono ?_
  rintro e w14 ⟨A14, n14, c14, rfl, hm, hi, hb⟩
  have HI := Lib.hid hi
  have HB := Lib.hid (below_then HB.out hb)
  have HP := Lib.hid (HP.out.below hb)
  clear hm hi hb
  go_wp2_with fail
  have hal : Below w14.heap.size w14 (w14.alloc (.cells (([(0, 100), (5, 90), (5, 90), (65, 1), (0, 100)] : List (Int × Int)).flatMap encRm).toArray 37)) := (Below.refl _ _).alloc (Nat.le_refl _) _
  have HB := Lib.hid (below_then HB.out hal)
  have HP := Lib.hid (HP.out.below hal)
  have HI := Lib.hid (HI.out.below hal)
  refine (rooms_same HI.out (rooms_lit _ [(0, 100), (5, 90), (5, 90), (65, 1), (0, 100)] _ _ _ rfl _ rfl rfl (by decide))).mono ?_
  rintro e w15 ⟨rfl, hb⟩
  have HB := Lib.hid (below_then HB.out hb)
  have HP := Lib.hid (HP.out.below hb)
  have hsz := hb.size
  clear hb hal
  go_wp2_with fail
  go_ret
  exact ⟨rfl, HB.out⟩
end Go.Proofs.Ytllloonfnbhoeaa
/- Package tree says what it is asked. -/
namespace Go.Proofs.Ytllloonfnbhoeaa
open Go.RowKit
set_option linter.unusedVariables false
set_option linter.unusedSimpArgs false
theorem hasI_none (a : Int) : hasI [] a = false := by
  rcases hq : hasI [] a with _ | _
  · rfl
  · obtain ⟨h1, h2⟩ := hasI_iff.1 hq
    simp at h2
    omega
theorem aboveI_none (a : Int) : aboveI [] a = [] := by unfold aboveI; rw [hasI_none]; rfl
theorem aboveA_ord (L : List Nd) (a : Int) : aboveI (ordL L) a = aboveA L a := by
  unfold ordL aboveA
  rcases docB L with _ | _
  · rw [if_neg (by decide), if_neg (by decide), aboveI_none]
  · rw [if_pos rfl, if_pos rfl]
theorem parentA_ord (L : List Nd) (a : Int) : parentI (ordL L) a = parentA L a := by
  unfold ordL parentA
  rcases docB L with _ | _
  · rw [if_neg (by decide), if_neg (by decide)]; unfold parentI; rw [aboveI_none]; rfl
  · rw [if_pos rfl, if_pos rfl]
theorem holdsA_ord (L : List Nd) (a b : Int) : holdsI (ordL L) a b = holdsA L a b := by
  unfold ordL holdsA
  rcases docB L with _ | _
  · rw [if_neg (by decide)]; unfold holdsI; rw [hasI_none]; rfl
  · rw [if_pos rfl, Bool.true_and]
theorem roomsA_ord (L : List Nd) (W : Int) : roomsI (ordL L) W = roomsA L W := by
  unfold ordL roomsA
  rcases docB L with _ | _
  · rw [if_neg (by decide), if_neg (by decide)]
    unfold roomsI
    split
    · rfl
    · rfl
  · rw [if_pos rfl, if_pos rfl]
theorem kidsA_ord (L : List Nd) (a : Int) : kidsI (ordL L) a = kidsA L a := by
  unfold ordL kidsA
  rcases docB L with _ | _
  · rw [if_neg (by decide), if_neg (by simp)]; rfl
  · rw [if_pos rfl]
    by_cases h : -1 ≤ a ∧ a < (L.length : Int)
    · rw [if_pos (by simp; exact h)]
    · rw [if_neg (by simp; omega)]
      exact kidsI_odd (by omega)
theorem treeSays : TreeSays where
  parent := fun hv _ hp => tParent_to (by rw [parentA_ord]; exact hv) hp
  above := fun hv _ hp => (tAbove_to hp).mono fun e w' h => by rw [aboveA_ord, hv] at h; exact h.new.seen
  kidsN := fun hv _ hp => (tKids_to hp).mono fun e w' h => by rw [kidsA_ord, hv] at h; exact h.new
  holds := fun hv _ _ hp => tHolds_to (by rw [holdsA_ord]; exact hv) hp
  rooms := fun hv _ hp => tRooms_to (by rw [roomsA_ord]; exact hv) hp
end Go.Proofs.Ytllloonfnbhoeaa
