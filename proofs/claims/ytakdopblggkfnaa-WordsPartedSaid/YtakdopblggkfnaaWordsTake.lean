import Derived.Test.YtakdopblggkfnaaWordsEnds
import Derived.Test.YtakdopblggkfnaaBoxN
/- The program's package words: the line from a word on. -/
namespace Go.Proofs.Ytakdopblggkfnaa
open Go.RowKit Go.Shelf
set_option linter.unusedVariables false
set_option linter.unusedSimpArgs false
attribute [local go_sem] Oper.semAt_some
/-- the line that stands behind so many words. -/
def lineK (zs : List Int) (sp a : Int) (pre : List K9) : List Value :=
  match pre.getLast? with
  | none => [.int .i64 0, .int .i64 0, .int .i64 0]
  | some k => [.int .i64 a, .int .i64 (a + ((k.1 : Nat) : Int) + 1), .int .i64 (wideK zs sp a (k.1 + 1))]
/-- what stays, while Take's loop runs: the width, the word, the block of the answer. -/
def TakB (w : World) (wd a : Int) (W : World) : Prop := Boxed W w.heap.size 3 (.int .i64 wd) ∧ Boxed W (w.heap.size + 1) 3 (.int .i64 a) ∧ BoxN W (w.heap.size + 2) 27 [.int .i64 0, .int .i64 0, .int .i64 0] ∧ Below w.heap.size w W
/-- between two rounds of Take's loop. -/
def TakI (w : World) (zs : List Int) (sp wd a : Int) (pre : List K9) (W : World) : Prop := (∀ k ∈ pre, k.1 = 0 ∨ wideK zs sp a (k.1 + 1) ≤ wd) ∧ TakB w wd a W ∧ BoxN W (w.heap.size + 3) 27 (lineK zs sp a pre)
/-- where a round ended the loop. -/
def TakX (w : World) (zs : List Int) (sp wd a : Int) (c0 c : Code) (pre : List K9) (W : World) : Prop := c = c0 ∧ ∃ (p : List K9) (k : K9), pre = p ++ [k] ∧ k.1 ≠ 0 ∧ wd < wideK zs sp a (k.1 + 1) ∧ TakI w zs sp wd a p W
theorem takB_own {w : World} {wd a : Int} {B : Nat} (hB : w.heap.size ≤ B) {X Y : World} {row : Option Nat} (h : TakB w wd a X) (hg : X.grownBy Y row) (hr : ∀ r, row = some r → B ≤ r ∧ ∃ o : Obj, X.heap[r]? = some o ∧ o.isCells = false) : TakB w wd a Y :=
  ⟨boxed_kept9 h.1 hg hr, boxed_kept9 h.2.1 hg hr, h.2.2.1.own hg hr, ownFrom_below (β := Unit) (w₀ := w) (Nat.le_refl _) hB () X Y row h.2.2.2 hg hr⟩
theorem takI_own {w : World} {zs : List Int} {sp wd a : Int} {B : Nat} (hB : w.heap.size ≤ B) : OwnFrom B (TakI w zs sp wd a) := fun pre X Y row ⟨h0, h1, h2⟩ hg hr =>
  ⟨h0, takB_own hB h1 hg hr, h2.own hg hr⟩
theorem takX_own {w : World} {zs : List Int} {sp wd a : Int} {B : Nat} {c0 : Code} (hB : w.heap.size ≤ B) (c : Code) : OwnFrom B (TakX w zs sp wd a c0 c) := fun pre X Y row ⟨h0, p, k, h1, h2, h3, h4⟩ hg hr =>
  ⟨h0, p, k, h1, h2, h3, takI_own hB p X Y row h4 hg hr⟩
theorem lineK_last (zs : List Int) (sp a : Int) (pre : List K9) (k : K9) : lineK zs sp a (pre ++ [k]) = [.int .i64 a, .int .i64 (a + ((k.1 : Nat) : Int) + 1), .int .i64 (wideK zs sp a (k.1 + 1))] := by
  unfold lineK; rw [List.getLast?_concat]
theorem lineK_three (zs : List Int) (sp a : Int) (pre : List K9) : ∃ l0 l1 l2 : Int, lineK zs sp a pre = [.int .i64 l0, .int .i64 l1, .int .i64 l2] := by
  unfold lineK; split
  · exact ⟨_, _, _, rfl⟩
  · exact ⟨_, _, _, rfl⟩
/-- the line that stands at the end is the one that is asked for. -/
theorem line_is {zs : List Int} {sp wd a x y z : Int} (hv : takeI zs sp wd a = (x, y, z)) (hn : Near9 zs sp) {pre : List K9} {q : Nat} (hq : q ≤ leftN zs a) (hp : pre.map (·.1) = List.range q) (h1 : ∀ k ∈ pre, k.1 = 0 ∨ wideK zs sp a (k.1 + 1) ≤ wd)
    (hstop : q = leftN zs a ∨ (q ≠ 0 ∧ q < leftN zs a ∧ wd < wideK zs sp a (q + 1))) : lineK zs sp a pre = [.int .i64 x, .int .i64 y, .int .i64 z] := by
  by_cases ha : 0 ≤ a ∧ a < (zs.length : Int)
  · have hl : leftN zs a = zs.length - a.toNat := by unfold leftN; rw [if_pos ha]
    obtain ⟨i, rfl⟩ : ∃ i : Nat, a = (i : Int) := ⟨a.toNat, by omega⟩
    rw [Int.toNat_natCast] at hl
    have hi : i < zs.length := by omega
    rw [takeI_nat hi] at hv
    cases q with
    | zero => rcases hstop with h | h <;> omega
    | succ q =>
      obtain ⟨p, k, rfl⟩ : ∃ p k, pre = p ++ [k] := by
        rcases List.eq_nil_or_concat pre with h | ⟨p, k, h⟩
        · subst h; rw [List.range_succ] at hp; exact absurd (congrArg List.length hp) (by simp)
        · exact ⟨p, k, by simpa using h⟩
      have hk : k.1 = q := by
        rw [List.map_append, List.range_succ] at hp
        have := List.append_inj_right' hp rfl
        simpa using this
      have hlt : LineTo zs sp wd i (i + (q + 1)) := by
        refine ⟨by omega, by omega, ?_⟩
        rcases h1 k (by simp) with h | h
        · left; omega
        · right; rw [hk] at h; exact h
      have hfu : Full zs sp wd i (i + (q + 1)) := by
        intro h
        rcases hstop with h2 | ⟨_, _, h2⟩
        · omega
        · exact h2
      have he : i + (q + 1) = endP zs sp wd i := full_one hn hlt hfu (endP_spec hi).1 (endP_spec hi).2
      unfold takeN at hv
      rw [← he] at hv
      injection hv with e1 hv
      injection hv with e2 e3
      rw [lineK_last, hk, ← e1, ← e2, ← e3]
      congr 3
  · have hl : leftN zs a = 0 := by unfold leftN; rw [if_neg ha]
    rw [takeI_bad (by omega)] at hv
    injection hv with e1 hv
    injection hv with e2 e3
    have : pre = [] := by
      obtain rfl : q = 0 := by omega
      exact List.map_eq_nil_iff.1 hp
    subst this e1 e2 e3
    rfl
/-- what the range reads, while Take's line is written. -/
def TakG (w : World) (sp a : Int) (A : Option Addr) (m c D : Nat) (V : World) : Prop := Below w.heap.size w V ∧ Boxed V D 22 (.slice A m c) ∧ Boxed V (D + 1) 3 (.int .i64 sp) ∧ Boxed V (D + 2) 3 (.int .i64 a)
theorem takG_reads {w : World} {zs : List Int} {sp a : Int} {A : Option Addr} {m c D : Nat} (hA : Ints w A m zs) {V : World} (h : TakG w sp a A m c D V) : Reads9 zs sp a A m c D V := ⟨h.2.1.cell, h.2.2.1.cell, h.2.2.2.cell, hA.below h.1 rfl⟩
theorem takG_drew {w : World} {sp a : Int} {A : Option Addr} {m c D : Nat} {V : World} (h : TakG w sp a A m c D V) : TakG w sp a A m c D V.drew := ⟨h.1.drew, h.2.1, h.2.2.1, h.2.2.2⟩
theorem takG_on {w w2 : World} {sp a : Int} {A : Option Addr} {m c D : Nat} (h : TakG w sp a A m c D w2) {V : World} (hb : On w2 V) : TakG w sp a A m c D V := ⟨below_then h.1 hb, (hb.block _ h.2.1.lt).trans h.2.1, (hb.block _ h.2.2.1.lt).trans h.2.2.1, (hb.block _ h.2.2.2.lt).trans h.2.2.2⟩
theorem takG_put {w W : World} {sp a : Int} {A : Option Addr} {m c D l : Nat} {o o' : Obj} (hl : w.heap.size ≤ l) (ho : W.heap[l]? = some o) (hc : o.isCells = false) (hw : o.isWalk = false) (h : TakG w sp a A m c D W) : TakG w sp a A m c D (W.putObj l o') := by
  have hne : ∀ {n : Nat} {t : TypeId} {v : Value}, Boxed W n t v → some n ≠ some l := fun {n t v} hb e => by
    injection e with e
    subst e
    rw [show W.heap[n]? = _ from hb] at ho; cases ho; cases hc
  exact ⟨belowK_b (Nat.le_refl _) W l o o' hl ho hc hw |> h.1.trans, h.2.1.kept (grownBy_putObj' _ _ _) (hne h.2.1), h.2.2.1.kept (grownBy_putObj' _ _ _) (hne h.2.2.1), h.2.2.2.kept (grownBy_putObj' _ _ _) (hne h.2.2.2)⟩
theorem takG_set {w W : World} {sp a : Int} {A : Option Addr} {m c D n : Nat} (hn : w.heap.size ≤ n) (hD : n < D) (j : Nat) (v : Value) (h : TakG w sp a A m c D W) : TakG w sp a A m c D (W.setCell ⟨n, j, none⟩ v) :=
  ⟨h.1.setCell hn _, h.2.1.kept (grownBy_setCellN W n j v) (fun e => by cases e; omega), h.2.2.1.kept (grownBy_setCellN W n j v) (fun e => by cases e; omega), h.2.2.2.kept (grownBy_setCellN W n j v) (fun e => by cases e; omega)⟩
set_option maxRecDepth 100000 in
set_option maxHeartbeats 4000000 in
theorem ptake_in {zs : List Int} {sp wd a x y z : Int} (hv : takeI zs sp wd a = (x, y, z)) (hn : Near9 zs sp) (ha : I64w a) (hwd : I64w wd) {A : Option Addr} {m c : Nat} (hm : m ≤ 1000) {w : World} (h : Ints w A m zs) :
    CallsIn Fence.wide 9 Try.prog 10 #[.slice A m c, .int .i64 sp, .int .i64 wd, .int .i64 a] w fun e w' => e = .returned (.agg #[.int .i64 x, .int .i64 y, .int .i64 z]) ∧ Below w.heap.size w w' := by
  have HA := Lib.hid h
  have HV := Lib.hid hv
  have HN := Lib.hid hn
  have HIa := Lib.hid ha
  have HIb := Lib.hid hwd
  clear h hv hn ha hwd
  refine callsIn_of_wp_marks Try.func10 rfl trivial ?_ rfl
  simp only [Try.ntmps10, List.size_toArray, List.length_cons, List.length_nil, Nat.reduceAdd, Nat.reduceSub, Array.replicate_succ, Array.replicate_zero, List.push_toArray, List.append_toArray, List.nil_append, List.cons_append]
  gi_wp2_with ((refine ⟨trivial, ?_⟩; gi_at_call 16; refine (callsIn_wide.2 (ends_in _ _ _ _ _ _)).mono ?_; rintro e w2 ⟨rfl, hw2⟩; have HW2 := Lib.hid hw2; clear hw2))
  have hw2 := HW2.out
  clear HW2
  obtain ⟨W1, hW1⟩ : ∃ W1, (((w.alloc (.cells #[.int .i64 wd] 3)).alloc (.cells #[.int .i64 a] 3)).alloc (.cells #[.int .i64 0, .int .i64 0, .int .i64 0] 27)).alloc (.cells #[.int .i64 0, .int .i64 0, .int .i64 0] 27) = W1 := ⟨_, rfl⟩
  rw [hW1] at hw2
  have hs1 : W1.heap.size = w.heap.size + 4 := by rw [← hW1]; simp
  have hB1 : Below w.heap.size w W1 := by rw [← hW1]; exact ((((Below.refl _ w).alloc (Nat.le_refl _) _).alloc (by simp) _).alloc (by simp; omega) _).alloc (by simp; omega) _
  have k0 : Boxed W1 w.heap.size 3 (.int .i64 wd) := by rw [← hW1]; exact (((Boxed.new w 3 (.int .i64 wd)).alloc _).alloc _).alloc _
  have k1 : Boxed W1 (w.heap.size + 1) 3 (.int .i64 a) := by
    rw [← hW1]
    have := Boxed.new (w.alloc (.cells #[.int .i64 wd] 3)) 3 (.int .i64 a)
    rw [World.size_alloc] at this
    exact (this.alloc _).alloc _
  have k2 : BoxN W1 (w.heap.size + 2) 27 [.int .i64 0, .int .i64 0, .int .i64 0] := by
    rw [← hW1]
    have := BoxN.new ((w.alloc (.cells #[.int .i64 wd] 3)).alloc (.cells #[.int .i64 a] 3)) 27 [.int .i64 0, .int .i64 0, .int .i64 0]
    rw [World.size_alloc, World.size_alloc] at this
    exact this.alloc _
  have k3 : BoxN W1 (w.heap.size + 3) 27 [.int .i64 0, .int .i64 0, .int .i64 0] := by
    rw [← hW1]
    have := BoxN.new (((w.alloc (.cells #[.int .i64 wd] 3)).alloc (.cells #[.int .i64 a] 3)).alloc (.cells #[.int .i64 0, .int .i64 0, .int .i64 0] 27)) 27 [.int .i64 0, .int .i64 0, .int .i64 0]
    rw [World.size_alloc, World.size_alloc, World.size_alloc] at this
    exact this
  obtain ⟨g1, g2, g3, g4, g5⟩ := three_boxes W1 _ _ _ _ _ _ w2 hw2
  have hB2 : Below w.heap.size w w2 := below_then hB1 g4
  have hT0 : TakI w zs sp wd a [] w2 := ⟨by simp, ⟨(g4.block w.heap.size (by omega)).trans k0, (g4.block (w.heap.size + 1) (by omega)).trans k1, k2.below g4 (by omega), hB2⟩, k3.below g4 (by omega)⟩
  rw [show w.heap.size + 1 + 1 + 1 + 1 = W1.heap.size by omega]
  have hG2 : TakG w sp a A m c W1.heap.size w2 := ⟨hB2, g1, g2, g3⟩
  have HST := Lib.hid (ends_stops W1.heap.size w2 HN.out hm HIa.out HA.out.1 (TakG w sp a A m c W1.heap.size) (fun X Y => TakG w sp a A m c W1.heap.size X → TakG w sp a A m c W1.heap.size Y) (fun V h => takG_reads HA.out h) (fun V h => takG_drew h) (fun X Y h k => k h) (fun V h => takG_on hG2 h))
  have hz1 : w.heap.size + 4 ≤ W1.heap.size := by omega
  have hz2 : W1.heap.size + 3 ≤ w2.heap.size := by omega
  clear hw2 hB1 g1 g2 g3 g4 g5 hs1 k0 k1 k2 k3 hW1
  rw [show w.heap.size + 1 + 1 + 1 = w.heap.size + 3 by omega, show w.heap.size + 1 + 1 = w.heap.size + 2 by omega]
  refine wpIn_rangeFunc_ownF (F := Fence.wide) rfl (by omega) (gf := 17) (lb := #[.pointer (some ⟨W1.heap.size + 2, 0, none⟩), .pointer (some ⟨W1.heap.size, 0, none⟩), .pointer (some ⟨W1.heap.size + 1, 0, none⟩)]) rfl trivial (enters_of Try.func17 (by kernel_rfl) rfl)
    (HST.out 8) (fun h k g => k (h g)) (fun W l o o' hl ho hc hw g => takG_put (by have := hG2.1.size; omega) ho hc hw g) (Below.refl _ _) (fun _ => rfl) (TakI w zs sp wd a) (TakX w zs sp wd a (.exit 0)) (takI_own (by omega)) (fun c => takX_own (by omega) c) hT0
    (fun x => { tmps := #[.slice A m c, .int .i64 sp, .int .i64 wd, .int .i64 a, undef, undef, .pointer (some ⟨w.heap.size, 0, none⟩), .pointer (some ⟨w.heap.size + 1, 0, none⟩), .pointer (some ⟨w.heap.size + 2, 0, none⟩), .pointer (some ⟨w.heap.size + 3, 0, none⟩), .int .i64 (a + ((x.1 : Nat) : Int) + 1), .int .i64 (wideK zs sp a (x.1 + 1)), .slice A m c, .int .i64 sp, .int .i64 a, .func (.func 17) #[] #[.pointer (some ⟨W1.heap.size + 2, 0, none⟩), .pointer (some ⟨W1.heap.size, 0, none⟩), .pointer (some ⟨W1.heap.size + 1, 0, none⟩)], .int .i64 (a + ((x.1 : Nat) : Int) + 1), .int .i64 (wideK zs sp a (x.1 + 1)), undef, undef, undef, undef, undef, undef, undef, undef, undef, undef, undef, undef, undef, undef], defers := [] }) ?assign ?body ?done ?stop
  case assign =>
    intro l x W K hK
    unfold enc9
    gi_wp2
    exact hK
  case body =>
    rintro l pre ⟨k, hk⟩ W hI _
    have HI := Lib.hid hI
    obtain ⟨hno, ⟨hv, hv1, hv2, hB⟩, hL⟩ := hI
    obtain ⟨l0, l1, l2, hl⟩ := lineK_three zs sp a pre
    rw [hl] at hL
    have hc := hv.cell
    have hc1 := hv1.cell
    have q0 := hL.cell (j := 0) rfl
    have q1 := hL.cell (j := 1) rfl
    have q2 := hL.cell (j := 2) rfl
    have f0 := hL.frozen 0
    have f1 := hL.frozen 1
    have f2 := hL.frozen 2
    show Code.wpIn _ _ _ _ _ _ _
    dsimp only
    obtain ⟨z', hz⟩ : ∃ z, wideK zs sp a (k + 1) = z := ⟨_, rfl⟩
    obtain ⟨x', hx⟩ : ∃ x, a + ((k : Nat) : Int) + 1 = x := ⟨_, rfl⟩
    rw [hz, hx]
    have HZ := Lib.hid hz
    have HX := Lib.hid hx
    have HNO := Lib.hid hno
    have hK : ∀ V, V = ((W.setCell ⟨w.heap.size + 3, 0, none⟩ (.int .i64 a)).setCell ⟨w.heap.size + 3, 1, none⟩ (.int .i64 x')).setCell ⟨w.heap.size + 3, 2, none⟩ (.int .i64 z') → (k = 0 ∨ z' ≤ wd) → KeepsOthers W V ∧ (TakG w sp a A m c W1.heap.size W → TakG w sp a A m c W1.heap.size V) ∧ TakI w zs sp wd a (pre ++ [⟨k, hk⟩]) V := by
      rintro V rfl hkz
      refine ⟨((KeepsOthers.setCell _ _ _).trans (KeepsOthers.setCell _ _ _)).trans (KeepsOthers.setCell _ _ _), fun g => takG_set (by omega) (by omega) _ _ (takG_set (by omega) (by omega) _ _ (takG_set (by omega) (by omega) _ _ g)), ?_, ⟨((hv.kept (grownBy_setCellN _ _ _ _) (by simp)).kept (grownBy_setCellN _ _ _ _) (by simp)).kept (grownBy_setCellN _ _ _ _) (by simp), ((hv1.kept (grownBy_setCellN _ _ _ _) (by simp)).kept (grownBy_setCellN _ _ _ _) (by simp)).kept (grownBy_setCellN _ _ _ _) (by simp), ((hv2.other (by omega) _).other (by omega) _).other (by omega) _, ((hB.setCell (by simp) _).setCell (by simp) _).setCell (by simp) _⟩, ?_⟩
      · intro y hy
        rcases List.mem_append.1 hy with h | h
        · exact HNO.out y h
        · rw [List.mem_singleton] at h
          subst h
          show k = 0 ∨ wideK zs sp a (k + 1) ≤ wd
          rw [HZ.out]; exact hkz
      · rw [lineK_last]
        show BoxN _ _ _ [.int .i64 a, .int .i64 (a + ((k : Nat) : Int) + 1), .int .i64 (wideK zs sp a (k + 1))]
        rw [HZ.out, HX.out]
        exact ((hL.set 0 _).set 1 _).set 2 _
    have HK := Lib.hid hK
    clear hz hx hno hK hl
    by_cases hk0 : k = 0
    · subst hk0
      have hwr : IntKind.i64.wrap (x' - a) = 1 := by rw [← HX.out]; rw [show a + ((0 : Nat) : Int) + 1 - a = 1 by omega]; rfl
      gi_wp2
      exact HK.out _ rfl (.inl trivial)
    · obtain ⟨k, rfl⟩ : ∃ j, k = j + 1 := ⟨k - 1, by omega⟩
      have hwr : IntKind.i64.wrap (x' - a) = (k : Int) + 2 := by rw [← HX.out]; rw [show a + ((k + 1 : Nat) : Int) + 1 - a = (k : Int) + 2 by omega]; exact IntWalk.i64_in _ (by omega)
      by_cases hzw : z' ≤ wd
      · gi_wp2
        exact HK.out _ rfl (.inr hzw)
      · have hzw2 : wd < z' := by omega
        gi_wp2
        refine ⟨KeepsOthers.refl _, ?_⟩
        exact ⟨rfl, pre, ⟨k + 1, hk⟩, rfl, by simp, by show wd < wideK zs sp a (k + 1 + 1); rw [HZ.out]; exact hzw2, HI.out⟩
  case done =>
    rintro D xs W hD hxs ⟨hno, ⟨hv, hv1, hv2, hB⟩, hL⟩ hK
    rw [line_is HV.out HN.out (Nat.le_refl _) hxs hno (.inl rfl)] at hL
    clear hxs hno
    have q0 := hL.cell (j := 0) rfl
    have q1 := hL.cell (j := 1) rfl
    have q2 := hL.cell (j := 2) rfl
    have s0 := hv2.cell (j := 0) rfl
    have s1 := hv2.cell (j := 1) rfl
    have s2 := hv2.cell (j := 2) rfl
    have f0 := hv2.frozen 0
    have f1 := hv2.frozen 1
    have f2 := hv2.frozen 2
    gi_wp2
    have hD0 : w.heap.size + 2 ≠ D := by omega
    have hY := ((hv2.set 0 (.int .i64 x)).set 1 (.int .i64 y)).set 2 (.int .i64 z)
    have hBY : Below w.heap.size w (((W.setCell ⟨w.heap.size + 2, 0, none⟩ (.int .i64 x)).setCell ⟨w.heap.size + 2, 1, none⟩ (.int .i64 y)).setCell ⟨w.heap.size + 2, 2, none⟩ (.int .i64 z)) := ((hB.setCell (by simp) _).setCell (by simp) _).setCell (by simp) _
    generalize hV : ((W.setCell ⟨w.heap.size + 2, 0, none⟩ (.int .i64 x)).setCell ⟨w.heap.size + 2, 1, none⟩ (.int .i64 y)).setCell ⟨w.heap.size + 2, 2, none⟩ (.int .i64 z) = V at hY hBY ⊢
    have e0 : V.heap[D]? = some (.deferred (some [])) := by
      rw [← hV]
      exact (Below.heap_setCell _ _ _ D (by simpa using hD0.symm)).trans ((Below.heap_setCell _ _ _ D (by simpa using hD0.symm)).trans ((Below.heap_setCell _ _ _ D (by simpa using hD0.symm)).trans hK))
    have hYp := hY.kept (grownBy_putObj' V D (.deferred none)) (fun e => hD0 (by cases e; rfl))
    have r0 := hYp.cell (j := 0) rfl
    have r1 := hYp.cell (j := 1) rfl
    have r2 := hYp.cell (j := 2) rfl
    refine ⟨by simp, .inl ⟨_, _, rfl, run_takeDeferred e0, ?_⟩⟩
    refine ⟨.agg #[.int .i64 x, .int .i64 y, .int .i64 z], by simp [results, Try.results10, go_sem, r0, r1, r2], ?_⟩
    exact ⟨rfl, hBY.grown (grownBy_putObj' _ _ _) (by have := hBY.size; omega) (fun k e => by cases e; omega)⟩
  case stop =>
    rintro D c2 pre W hD ⟨q, hq1, hq2⟩ ⟨rfl, p, k, rfl, hk0, hkw, hno, ⟨hv, hv1, hv2, hB⟩, hL⟩ hK
    rw [List.map_append, List.range_succ] at hq2
    have e1 : k.1 = q := by simpa using List.append_inj_right' hq2 rfl
    have e2 : p.map (·.1) = List.range q := List.append_inj_left' hq2 rfl
    rw [line_is HV.out HN.out (Nat.le_of_lt hq1) e2 hno (.inr ⟨by omega, hq1, by rw [← e1]; exact hkw⟩)] at hL
    clear hq1 hq2 e1 e2 hkw hk0 hno
    have q0 := hL.cell (j := 0) rfl
    have q1 := hL.cell (j := 1) rfl
    have q2 := hL.cell (j := 2) rfl
    have s0 := hv2.cell (j := 0) rfl
    have s1 := hv2.cell (j := 1) rfl
    have s2 := hv2.cell (j := 2) rfl
    have f0 := hv2.frozen 0
    have f1 := hv2.frozen 1
    have f2 := hv2.frozen 2
    gi_wp2
    have hD0 : w.heap.size + 2 ≠ D := by omega
    have hY := ((hv2.set 0 (.int .i64 x)).set 1 (.int .i64 y)).set 2 (.int .i64 z)
    have hBY : Below w.heap.size w (((W.setCell ⟨w.heap.size + 2, 0, none⟩ (.int .i64 x)).setCell ⟨w.heap.size + 2, 1, none⟩ (.int .i64 y)).setCell ⟨w.heap.size + 2, 2, none⟩ (.int .i64 z)) := ((hB.setCell (by simp) _).setCell (by simp) _).setCell (by simp) _
    generalize hV : ((W.setCell ⟨w.heap.size + 2, 0, none⟩ (.int .i64 x)).setCell ⟨w.heap.size + 2, 1, none⟩ (.int .i64 y)).setCell ⟨w.heap.size + 2, 2, none⟩ (.int .i64 z) = V at hY hBY ⊢
    have e0 : V.heap[D]? = some (.deferred (some [])) := by
      rw [← hV]
      exact (Below.heap_setCell _ _ _ D (by simpa using hD0.symm)).trans ((Below.heap_setCell _ _ _ D (by simpa using hD0.symm)).trans ((Below.heap_setCell _ _ _ D (by simpa using hD0.symm)).trans hK))
    have hYp := hY.kept (grownBy_putObj' V D (.deferred none)) (fun e => hD0 (by cases e; rfl))
    have r0 := hYp.cell (j := 0) rfl
    have r1 := hYp.cell (j := 1) rfl
    have r2 := hYp.cell (j := 2) rfl
    refine ⟨by simp, .inl ⟨_, _, rfl, run_takeDeferred e0, ?_⟩⟩
    refine ⟨.agg #[.int .i64 x, .int .i64 y, .int .i64 z], by simp [results, Try.results10, go_sem, r0, r1, r2], ?_⟩
    exact ⟨rfl, hBY.grown (grownBy_putObj' _ _ _) (by have := hBY.size; omega) (fun k e => by cases e; omega)⟩
theorem ptake_to {zs : List Int} {sp wd a x y z : Int} (hv : takeI zs sp wd a = (x, y, z)) (hn : Near9 zs sp) (ha : I64w a) (hwd : I64w wd) {A : Option Addr} {m c : Nat} (hm : m ≤ 1000) {w : World} (h : Ints w A m zs) :
    Calls Try.prog 10 #[.slice A m c, .int .i64 sp, .int .i64 wd, .int .i64 a] w fun e w' => e = .returned (.agg #[.int .i64 x, .int .i64 y, .int .i64 z]) ∧ Below w.heap.size w w' := callsIn_wide.1 (ptake_in hv hn ha hwd hm h)
end Go.Proofs.Ytakdopblggkfnaa
