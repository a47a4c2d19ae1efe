import Derived.Test.YtildplbdhnodjaaDoorJD07
import Derived.Test.YtildplbdhnodjaaDoorJD10
import Derived.ChangeMaps5
import Derived.Deep.RegionHeld3
import Derived.Test.YtildplbdhnodjaaDoorJD01
import Derived.Test.YtildplbdhnodjaaDoorJD00
/- The program's package lex: Of and Text, each by its contract (lexof_any, lextext_any). -/
namespace Go.Proofs.YtildplbdhnodjaaDoor
end Go.Proofs.YtildplbdhnodjaaDoor
/- A map of the call's own from characters to functions: what is put in, what is looked up. -/
namespace Go.Proofs.YtildplbdhnodjaaDoor
open Go.RowKit Go.ChangeMaps
set_option linter.unusedVariables false
set_option linter.unusedSimpArgs false
theorem Rd.cell {toks : List Tok} {size : Int} {g : Nat} {w : World} {i : Nat} {wr : Bool} {row opn : Value} {s : Sty} {mp : Value} (h : Rd toks size g w i wr row opn s mp) (p : Nat) (hp : p < 18) : ∃ v, w.cell? ⟨g, p, none⟩ = some v := by
  obtain ⟨A, m, c, h1, h2, h3, h4, h5⟩ := h
  exact ⟨_, h5.box.2.2 p _ (List.getElem?_eq_getElem (show p < (rcells (.slice A m c) size wr row opn s mp).length from hp))⟩
theorem Rd.frozen {toks : List Tok} {size : Int} {g : Nat} {w : World} {i : Nat} {wr : Bool} {row opn : Value} {s : Sty} {mp : Value} (h : Rd toks size g w i wr row opn s mp) (p : Nat) : w.frozen? ⟨g, p, none⟩ = false := by
  obtain ⟨A, m, c, h1, h2, h3, h4, h5⟩ := h
  exact h5.box.2.1 p
theorem check_i32 (em : Bool) (c : Int) (w : World) : (Instr.checkKey em 10000 21 (.int .i32 c)).run Tryd.prog w = .ok () w := by kernel_rfl
/-- these entries hold the list's pairs. -/
def Ents (es : List MapEntry) (l : List (Int × Value)) : Prop := es.map (fun e => (e.key, e.val)) = l.map (fun p => (Value.int .i32 p.1, p.2))
def lookL (c : Int) (l : List (Int × Value)) : Option Value := (l.find? (·.1 == c)).map (·.2)
theorem findNow_i32 (c : Int) : ∀ (es : List MapEntry) (l : List (Int × Value)) (i : Nat), Ents es l → ∃ j, Instr.findNow (.int .i32) (.int .i32 c) es i = some ((lookL c l).map fun v => (j, v)) := by
  intro es
  induction es with
  | nil =>
    intro l i h
    cases l with
    | nil => exact ⟨0, rfl⟩
    | cons p l => cases h
  | cons e es ih =>
    intro l i h
    cases l with
    | nil => cases h
    | cons p l =>
      unfold Ents at h
      simp only [List.map_cons, List.cons.injEq, Prod.mk.injEq] at h
      obtain ⟨⟨h1, h2⟩, h3⟩ := h
      obtain ⟨j, hj⟩ := ih l (i + 1) h3
      unfold Instr.findNow
      rw [h1]
      simp only [Instr.sameNow, if_true]
      by_cases hc : c = p.1
      · subst hc
        refine ⟨i, ?_⟩
        simp [lookL, h2]
      · have e1 : (c == p.1) = false := by simp [hc]
        have e2 : (p.1 == c) = false := by simp; exact fun h => hc h.symm
        rw [e1]
        refine ⟨j, ?_⟩
        simp only [hj, lookL, List.find?_cons, e2]
theorem und_i32 : Tryd.prog.underlying 21 = some (.int .i32) := by kernel_rfl
theorem und_map : Tryd.prog.underlying 49 = some (.map 21 1) := by kernel_rfl
theorem find_i32 (c : Int) {es : List MapEntry} {l : List (Int × Value)} (h : Ents es l) (w : World) : ∃ j, (Instr.findKey 21 (.int .i32 c) es).run Tryd.prog w = .ok ((lookL c l).map fun v => (j, v)) w := by
  obtain ⟨j, hj⟩ := findNow_i32 c es l 0 h
  refine ⟨j, ?_⟩
  unfold Instr.findKey
  simp only [Sem.run_bind, run_underlying und_i32, Result.andThen, hj]
  rfl
/-- block M is a map that holds the list's pairs. -/
def Mp (w : World) (M : Nat) (l : List (Int × Value)) : Prop := ∃ es clock, w.heap[M]? = some (.map es clock) ∧ Ents es.toList l
theorem Mp.lt {w : World} {M : Nat} {l : List (Int × Value)} (h : Mp w M l) : M < w.heap.size := by obtain ⟨es, clock, h1, _⟩ := h; exact (Array.getElem?_eq_some_iff.1 h1).1
theorem Mp.of {w w' : World} {M : Nat} {l : List (Int × Value)} (h : Mp w M l) (hb : w'.heap[M]? = w.heap[M]?) : Mp w' M l := by obtain ⟨es, clock, h1, h2⟩ := h; exact ⟨es, clock, hb.trans h1, h2⟩
theorem Mp.below {w w' : World} {M : Nat} {l : List (Int × Value)} (h : Mp w M l) (hb : Below w.heap.size w w') : Mp w' M l := h.of (hb.block M h.lt)
theorem Mp.bar {g : Nat} {w w' : World} {M : Nat} {l : List (Int × Value)} (h : Mp w M l) (hb : Bar g w w') (hg : M ≠ g) : Mp w' M l := h.of (hb.block M h.lt hg)
theorem Mp.new (w : World) : Mp (w.alloc (.map #[] 0)) w.heap.size [] := ⟨#[], 0, World.alloc_heap_new w _, rfl⟩
theorem run_put {w : World} {M : Nat} {l : List (Int × Value)} (h : Mp w M l) (c : Int) (v : Value) (hc : lookL c l = none) :
    ∃ w', (Instr.mapUpdate 49 (.map (some M)) (.int .i32 c) v).run Tryd.prog w = .ok () w' ∧ Mp w' M (l ++ [(c, v)]) ∧ w.grownBy w' (some M) ∧ w'.heap.size = w.heap.size := by
  obtain ⟨es, clock, h1, h2⟩ := h
  obtain ⟨j, hj⟩ := find_i32 c h2 w
  rw [hc] at hj
  refine ⟨setBlock w M (.map (es.push ⟨.int .i32 c, v, clock⟩) (clock + 1)), ?_, ?_, ?_, ?_⟩
  · simp [Instr.mapUpdate, run_underlying und_map, MapKept.run_getObj_map h1, check_i32, hj, MapKept.run_setObj_map _ h1, Result.andThen, setBlock]
  · refine ⟨_, _, heap_setBlock_same h1 _, ?_⟩
    unfold Ents at h2 ⊢
    simp [h2]
  · exact ⟨rfl, rfl, rfl, by simp [setBlock], fun k hk hne => heap_setBlock_other h1 _ (fun e => hne (by rw [e]))⟩
  · simp [setBlock]
theorem zero_fn (w : World) : (zeroValue 1).run Tryd.prog w = .ok .nilFunc w := by kernel_rfl
theorem run_look {w : World} {M : Nat} {l : List (Int × Value)} (h : Mp w M l) (c : Int) :
    (Instr.lookup 49 (.map (some M)) (.int .i32 c) true).run Tryd.prog w = .ok (.tuple #[(lookL c l).getD .nilFunc, .bool (lookL c l).isSome]) w := by
  obtain ⟨es, clock, h1, h2⟩ := h
  obtain ⟨j, hj⟩ := find_i32 c h2 w
  cases hl : lookL c l with
  | none =>
    rw [hl] at hj
    simp [Instr.lookup, run_underlying und_map, MapKept.run_getObj_map h1, check_i32, hj, zero_fn, Result.andThen]
  | some v =>
    rw [hl] at hj
    simp [Instr.lookup, run_underlying und_map, MapKept.run_getObj_map h1, check_i32, hj, Result.andThen]
/-- a pair is put in, at the operation. -/
theorem wpList_put {ops : Array Oper} {rest : List Oper} {o : Oper} {a : Act} {w : World} {Q : Exit → Act → World → Prop} (hgd : o.guard = none) (m k x : Operand) (ho : o.op = .insert 49 m k x) (M : Nat) (hm : a.eval m = .map (some M))
    (c : Int) (hk : a.eval k = .int .i32 c) (v : Value) (hx : a.eval x = v) (l : List (Int × Value)) (h : Mp w M l) (hc : lookL c l = none)
    (hK : ∀ w', Mp w' M (l ++ [(c, v)]) → w.grownBy w' (some M) → w'.heap.size = w.heap.size → wpList Tryd.prog ops Q rest (a.put o.dst undef) w') : wpList Tryd.prog ops Q (o :: rest) a w := by
  refine wpList_plain hgd fun K hK' => ?_
  obtain ⟨w', hr, h1, h2, h3⟩ := run_put h c v hc
  unfold Oper.wp
  have he : (execOp a.eval o).run Tryd.prog w = .ok .skip w' := by
    unfold execOp
    simp [ho, hm, hk, hx, hr, Result.andThen]
  rw [he, Oper.upon_skip]
  exact hK' _ _ (hK w' h1 h2 h3)
/-- what the n-th letter's function is: where it reads to, from and up to which number. -/
def Tells (w : World) (rb : Nat) (part : Addr) (lo hi : Int) (v : Value) : Prop :=
  ∃ D, v = .func (.func 45) #[] #[.pointer (some ⟨rb, 0, none⟩), .pointer (some ⟨D + 1, 0, none⟩), .pointer (some ⟨D + 2, 0, none⟩), .pointer (some ⟨D, 0, none⟩)] ∧
    Box w D [.pointer (some part)] ∧ Box w (D + 1) [.int .i64 lo] ∧ Box w (D + 2) [.int .i64 hi]
theorem Tells.below {w w' : World} {rb : Nat} {part : Addr} {lo hi : Int} {v : Value} (h : Tells w rb part lo hi v) (hb : Below w.heap.size w w') : Tells w' rb part lo hi v := by
  obtain ⟨D, h1, h2, h3, h4⟩ := h
  exact ⟨D, h1, h2.below hb, h3.below hb, h4.below hb⟩
theorem makefn (fn : Fn) (first cap : Array Value) (w : World) : (Instr.makeFunc fn first cap).run Tryd.prog w = .ok (.func fn first cap) w := rfl
theorem numfn_any (rb : Nat) (part : Addr) (lo hi : Int) (w : World) : Calls Tryd.prog 44 #[.pointer (some part), .int .i64 lo, .int .i64 hi, .pointer (some ⟨rb, 0, none⟩)] w fun e w' =>
    ∃ v, e = .returned v ∧ Tells w' rb part lo hi v ∧ Below w.heap.size w w' := by
  have hmf := makefn
  go_enter Tryd.func44, Tryd.ntmps44
  go_wp2
  go_ret
  refine ⟨_, rfl, ⟨w.heap.size, rfl, ?_, ?_, ?_⟩, ?_⟩
  · exact ((Box.new w [.pointer (some part)] _).alloc _).alloc _
  · exact (box_new _ [.int .i64 lo] _ _ (by simp) _ rfl).alloc _
  · exact box_new _ [.int .i64 hi] _ _ (by simp) _ rfl
  · go_grown
/-- a letter's function is called: a number is read, and stored where it tells. -/
theorem tell_to {toks : List Tok} {size : Int} {g rb : Nat} {w : World} {i j p : Nat} {wr b : Bool} {row opn : Value} {s s' : Sty} {mp v : Value} {lo hi n : Int}
    (ht : Tells w rb ⟨g, p, none⟩ lo hi v) (hrb : Box w rb [.pointer (some ⟨g, 0, none⟩)]) (hne : rb ≠ g) (hp : p < 18) (hv : numS toks i wr lo hi = (n, j, b)) (h : Rd toks size g w i wr row opn s mp)
    (hs : ∀ left wr, (rcells left size wr row opn s mp).set p (.int .i64 n) = rcells left size wr row opn s' mp) :
    ∃ cap, v = .func (.func 45) #[] cap ∧ Calls Tryd.prog 45 cap w fun e w' => (∃ v, e = .returned v) ∧ Bar g w w' ∧ w'.heap.size = w.heap.size ∧ Rd toks size g w' j b row opn s' mp := by
  obtain ⟨D, rfl, h1, h2, h3⟩ := ht
  refine ⟨_, rfl, ?_⟩
  have hD : D ≠ g ∧ D + 1 ≠ g ∧ D + 2 ≠ g := by
    obtain ⟨A, m, c, _, _, _, _, h5⟩ := h
    have q := h5.box.2.2 0 _ rfl
    have q1 := h1.2.2 0 _ rfl
    have q2 := h2.2.2 0 _ rfl
    have q3 := h3.2.2 0 _ rfl
    refine ⟨?_, ?_, ?_⟩
    · intro e; rw [e, q] at q1; injection q1 with q1; cases q1
    · intro e; rw [e, q] at q2; injection q2 with q2; cases q2
    · intro e; rw [e, q] at q3; injection q3 with q3; cases q3
  have HM := Lib.hid (pnum_to hv (h.bar (Bar.refl g w).drew rfl))
  have HS := Lib.hid hs
  obtain ⟨a0, _, _⟩ := h1.of1
  obtain ⟨a1, _, _⟩ := h2.of1
  obtain ⟨a2, _, _⟩ := h3.of1
  obtain ⟨a3, _, _⟩ := hrb.of1
  have HX := Lib.hid (show ∀ w', Bar g w w' → w'.cell? ⟨D, 0, none⟩ = some (.pointer (some ⟨g, p, none⟩)) ∧ w'.cell? ⟨rb, 0, none⟩ = some (.pointer (some ⟨g, 0, none⟩)) ∧ w'.cell? ⟨D + 1, 0, none⟩ = some (.int .i64 lo) ∧ w'.cell? ⟨D + 2, 0, none⟩ = some (.int .i64 hi) from fun w' hb =>
    ⟨(h1.bar hb hD.1).2.2 0 _ rfl, (hrb.bar hb hne).2.2 0 _ rfl, (h2.bar hb hD.2.1).2.2 0 _ rfl, (h3.bar hb hD.2.2).2.2 0 _ rfl⟩)
  clear h1 h2 h3 hrb h hs hv
  go_enter Tryd.func45, Tryd.ntmps45
  go_wp2_with fail
  go_region_held3 (fun W' => W'.cell? ⟨D, 0, none⟩ = some (.pointer (some ⟨g, p, none⟩)) ∧ W'.cell? ⟨rb, 0, none⟩ = some (.pointer (some ⟨g, 0, none⟩)) ∧ W'.cell? ⟨D + 1, 0, none⟩ = some (.int .i64 lo) ∧ W'.cell? ⟨D + 2, 0, none⟩ = some (.int .i64 hi)) (first | exact ⟨a0, a3, a1, a2⟩ | exact HX.out _ ((Bar.refl g w).drew.trans hb) | exact HX.out _ (((Bar.refl g w).drew.trans hb).set _ _)) (first
    | (go_at_call 46; ((with_reducible refine HM.out.mono ?_); rintro e w1 ⟨rfl, hb, hs1, hr⟩; have HR := Lib.hid hr; obtain ⟨v5, c5⟩ := hr.cell p hp; have f5 := hr.frozen p; have g5 := hr.lt; clear hr)))
  go_wp2_with fail
  go_end0
  exact ⟨⟨_, rfl⟩, ((Bar.refl g w).drew.trans hb).set _ _, by simpa using hs1, HR.out.set p _ (fun left => HS.out left b)⟩
end Go.Proofs.YtildplbdhnodjaaDoor
/- The program's package read: the letters of attributes, a new reader. -/
namespace Go.Proofs.YtildplbdhnodjaaDoor
open Go.RowKit Go.ChangeMaps
set_option linter.unusedVariables false
set_option linter.unusedSimpArgs false
def posB (c : Int) : Nat := if c = 109 then 0 else if c = 110 then 1 else if c = 112 then 2 else if c = 113 then 3 else if c = 105 then 4 else if c = 111 then 5 else if c = 119 then 6 else if c = 104 then 7 else if c = 66 then 8 else if c = 65 then 9 else if c = 73 then 10 else 11
def chK (k : Nat) : Int := lettersB.getD k 0
theorem pos_ch : ∀ k, k < 12 → posB (chK k) = k := by decide +kernel
theorem ch_mem : ∀ k, k < 12 → chK k ∈ lettersB := by decide +kernel
theorem ch_pos : ∀ c ∈ lettersB, posB c < 12 ∧ chK (posB c) = c := by decide +kernel
theorem Box.map {w w' : World} {n M : Nat} {v : Value} {l : List (Int × Value)} (h : Box w n [v]) (hM : Mp w M l) (hg : w.grownBy w' (some M)) : Box w' n [v] := by
  have hne : n ≠ M := by
    rintro rfl
    obtain ⟨es, clock, h1, _⟩ := hM
    have := h.2.2 0 _ rfl
    simp [World.cell?, h1] at this
  have e := hg.block n h.1 (fun q => hne (by injection q))
  refine ⟨Nat.lt_of_lt_of_le h.1 hg.size, fun o => ?_, fun j u hu => ?_⟩
  · rw [← h.2.1 o]; simp only [World.frozen?, e]
  · rw [← h.2.2 j u hu]; simp only [World.cell?, e]
theorem Tells.map {w w' : World} {rb M : Nat} {part : Addr} {lo hi : Int} {v : Value} {l : List (Int × Value)} (h : Tells w rb part lo hi v) (hM : Mp w M l) (hg : w.grownBy w' (some M)) : Tells w' rb part lo hi v := by
  obtain ⟨D, h1, h2, h3, h4⟩ := h
  exact ⟨D, h1, h2.map hM hg, h3.map hM hg, h4.map hM hg⟩
theorem lookL_none {c : Int} {l : List (Int × Value)} (h : ∀ p ∈ l, p.1 ≠ c) : lookL c l = none := by
  unfold lookL
  rw [List.find?_eq_none.2 (fun p hp => by simp; exact h p hp)]
  rfl
/-- the reader's letters. -/
structure Lets (w : World) (rb g M : Nat) : Prop where
  box : Box w rb [.pointer (some ⟨g, 0, none⟩)]
  ne : rb ≠ g ∧ M ≠ g
  ex : ∃ l, Mp w M l ∧ (∀ p ∈ l, p.1 ∈ lettersB ∧ Tells w rb ⟨g, 5 + posB p.1, none⟩ (limitB p.1).1 (limitB p.1).2 p.2) ∧ ∀ c ∈ lettersB, ∃ p ∈ l, p.1 = c
theorem Lets.below {w w' : World} {rb g M : Nat} (h : Lets w rb g M) (hb : Below w.heap.size w w') : Lets w' rb g M := by
  obtain ⟨l, h1, h2, h3⟩ := h.ex
  exact ⟨h.box.below hb, h.ne, l, h1.below hb, fun p hp => ⟨(h2 p hp).1, (h2 p hp).2.below hb⟩, h3⟩
theorem Lets.hit {w : World} {rb g M : Nat} (h : Lets w rb g M) {c : Int} (hc : c ∈ lettersB) : ∃ v, (Instr.lookup 49 (.map (some M)) (.int .i32 c) true).run Tryd.prog w = .ok (.tuple #[v, .bool true]) w ∧ Tells w rb ⟨g, 5 + posB c, none⟩ (limitB c).1 (limitB c).2 v := by
  obtain ⟨l, h1, h2, h3⟩ := h.ex
  have hr := run_look h1 c
  cases hl : lookL c l with
  | none =>
    exfalso
    unfold lookL at hl
    simp only [Option.map_eq_none_iff] at hl
    obtain ⟨p, hp, rfl⟩ := h3 c hc
    have := List.find?_eq_none.1 hl p hp
    simp at this
  | some v =>
    rw [hl] at hr
    refine ⟨v, hr, ?_⟩
    unfold lookL at hl
    obtain ⟨p, hp, rfl⟩ := Option.map_eq_some_iff.1 hl
    have e : p.1 = c := by have := List.find?_some hp; simpa using this
    have hm := List.mem_of_find?_eq_some hp
    rw [← e]
    exact (h2 p hm).2
theorem Lets.miss {w : World} {rb g M : Nat} (h : Lets w rb g M) {c : Int} (hc : c ∉ lettersB) : (Instr.lookup 49 (.map (some M)) (.int .i32 c) true).run Tryd.prog w = .ok (.tuple #[.nilFunc, .bool false]) w := by
  obtain ⟨l, h1, h2, h3⟩ := h.ex
  have hr := run_look h1 c
  rw [lookL_none (c := c) (l := l) (fun p hp e => hc (by rw [← e]; exact (h2 p hp).1))] at hr
  exact hr
/-! ### the region that makes the map: what holds of each set of its operations -/
def upd (f : Nat → Value) (s : Nat) (v : Value) (i : Nat) : Value := if i = s then v else f i
theorem upd_same (f : Nat → Value) (s : Nat) (v : Value) : upd f s v s = v := if_pos rfl
theorem upd_ne (f : Nat → Value) {s i : Nat} (v : Value) (h : i ≠ s) : upd f s v i = f i := if_neg h
def Frm (rb g : Nat) (f : Nat → Value) : Act := ⟨#[.pointer (some ⟨g, 0, none⟩), .pointer (some ⟨rb, 0, none⟩), f 2, .func (.func 44) #[] #[.pointer (some ⟨rb, 0, none⟩)], .pointer (some ⟨g, 5, none⟩), .func (.func 44) #[] #[.pointer (some ⟨rb, 0, none⟩)], .pointer (some ⟨g, 0, none⟩), .pointer (some ⟨g, 0, none⟩), .pointer (some ⟨g, 5, none⟩), f 9, f 10, f 11, f 12, f 13, f 14, f 15, f 16, f 17, f 18, f 19, f 20, f 21, f 22, f 23, f 24, f 25, f 26, f 27, f 28, f 29, f 30, f 31, f 32, f 33, f 34, f 35, f 36, f 37, f 38, f 39, f 40, f 41, f 42, f 43, f 44, f 45, f 46, f 47, f 48, f 49, f 50, f 51, f 52, f 53, f 54, f 55, f 56, f 57, f 58, f 59, f 60, f 61, f 62, f 63, f 64, f 65, f 66, f 67, f 68, f 69, f 70], []⟩
/-- what the value of one of the operations says. -/
def cl (rb g : Nat) (w : World) (j : Nat) (v : Value) : Prop :=
  if (j - 1) % 6 = 0 then v = .func (.func 44) #[] #[.pointer (some ⟨rb, 0, none⟩)]
  else if (j - 1) % 6 = 1 then v = .pointer (some ⟨g, 5, none⟩) else if (j - 1) % 6 = 2 then v = .pointer (some ⟨g, 5, none⟩)
  else if (j - 1) % 6 = 3 then v = .pointer (some ⟨g, 5 + (j - 1) / 6, none⟩)
  else Tells w rb ⟨g, 5 + (j - 1) / 6, none⟩ (limitB (chK ((j - 1) / 6))).1 (limitB (chK ((j - 1) / 6))).2 v
theorem cl.below {rb g : Nat} {w w' : World} {j : Nat} {v : Value} (h : cl rb g w j v) (hb : Below w.heap.size w w') : cl rb g w' j v := by
  unfold cl at *
  split
  · simpa [*] using h
  · split
    · simpa [*] using h
    · split
      · simpa [*] using h
      · split
        · simpa [*] using h
        · simp only [*, if_false] at h; exact h.below hb
theorem cl.map {rb g M : Nat} {w w' : World} {j : Nat} {v : Value} {l : List (Int × Value)} (h : cl rb g w j v) (hM : Mp w M l) (hg : w.grownBy w' (some M)) : cl rb g w' j v := by
  unfold cl at *
  split
  · simpa [*] using h
  · split
    · simpa [*] using h
    · split
      · simpa [*] using h
      · split
        · simpa [*] using h
        · simp only [*, if_false] at h; exact h.map hM hg
def slotJ (j : Nat) : Nat := 10 + 5 * ((j - 1) / 6) + (j - 1) % 6
abbrev L (listed : Array Bool) (j : Nat) : Prop := listed.getD j false = true
structure LB (w0 : World) (rb g : Nat) (listed : Array Bool) (f : Nat → Value) (w : World) : Prop where
  size : listed.size = 75
  box : Box w rb [.pointer (some ⟨g, 0, none⟩)]
  below : Below w0.heap.size w0 w
  gl : g < w0.heap.size
  rbl : w0.heap.size ≤ rb
  sl : ∀ j, 1 ≤ j → j ≤ 72 → (j - 1) % 6 < 5 → L listed j → cl rb g w j (f (slotJ j))
  mp : L listed 0 → ∃ M l, f 9 = .map (some M) ∧ w0.heap.size ≤ M ∧ Mp w M l ∧ (∀ p ∈ l, ∃ k, k < 12 ∧ L listed (6 + 6 * k) ∧ p.1 = chK k ∧ Tells w rb ⟨g, 5 + k, none⟩ (limitB (chK k)).1 (limitB (chK k)).2 p.2) ∧ ∀ k, k < 12 → L listed (6 + 6 * k) → ∃ p ∈ l, p.1 = chK k
  e0 : ∀ k, k < 12 → L listed (6 + 6 * k) → L listed 0
  e1 : L listed 73 → L listed 0 ∧ f 70 = f 9
  e2 : L listed 74 → L listed 73 ∧ f 2 = f 70
theorem L_set {listed : Array Bool} {i j : Nat} (h : i ≠ j) : L (listed.setIfInBounds i true) j ↔ L listed j := by unfold L; rw [getD_set_ne false h]
theorem L_self {listed : Array Bool} {j : Nat} (h : listed.getD j true = false) : L (listed.setIfInBounds j true) j := by
  have hj : j < listed.size := by
    rcases Nat.lt_or_ge j listed.size with h' | h'
    · exact h'
    · rw [Array.getD_eq_getD_getElem?, Array.getElem?_eq_none h'] at h; cases h
  unfold L
  simp [Array.getD_eq_getD_getElem?, Array.getElem?_setIfInBounds, hj]
theorem L_not {listed : Array Bool} {j : Nat} (h : listed.getD j true = false) : ¬ L listed j := by
  intro hl
  unfold L at hl
  rcases Nat.lt_or_ge j listed.size with h' | h'
  · rw [Array.getD_eq_getD_getElem?, Array.getElem?_eq_getElem h'] at h hl
    simp at h hl
    rw [h] at hl; cases hl
  · rw [Array.getD_eq_getD_getElem?, Array.getElem?_eq_none h'] at hl; cases hl
theorem LB.slot {w0 : World} {rb g : Nat} {listed : Array Bool} {f : Nat → Value} {w w' : World} (h : LB w0 rb g listed f w) (hb : Below w.heap.size w w') (j : Nat) (h1 : 1 ≤ j) (h2 : j ≤ 72) (h3 : (j - 1) % 6 < 5) {v : Value} (hv : cl rb g w' j v) :
    LB w0 rb g (listed.setIfInBounds j true) (upd f (slotJ j) v) w' := by
  have hs9 : (9 : Nat) ≠ slotJ j := by unfold slotJ; omega
  have hs70 : (70 : Nat) ≠ slotJ j := by unfold slotJ; omega
  have hs2 : (2 : Nat) ≠ slotJ j := by unfold slotJ; omega
  refine ⟨by simp [h.size], h.box.below hb, h.below.trans (hb.mono h.below.size), h.gl, h.rbl, ?_, ?_, ?_, ?_, ?_⟩
  · intro i a1 a2 a3 hl
    by_cases e : i = j
    · subst e; rw [upd_same]; exact hv
    · have hne : slotJ i ≠ slotJ j := by unfold slotJ; omega
      rw [upd_ne _ _ hne]
      exact (h.sl i a1 a2 a3 ((L_set (fun q => e q.symm)).1 hl)).below hb
  · intro hl
    obtain ⟨M, l, b1, b2, b3, b4, b5⟩ := h.mp ((L_set (by omega)).1 hl)
    refine ⟨M, l, by rw [upd_ne _ _ hs9]; exact b1, b2, b3.below hb, fun p hp => ?_, fun k hk hl => b5 k hk ((L_set (by omega)).1 hl)⟩
    obtain ⟨k, k1, k2, k3, k4⟩ := b4 p hp
    exact ⟨k, k1, (L_set (by omega)).2 k2, k3, k4.below hb⟩
  · intro k hk hl; exact (L_set (by omega)).2 (h.e0 k hk ((L_set (by omega)).1 hl))
  · intro hl
    obtain ⟨a, b⟩ := h.e1 ((L_set (by omega)).1 hl)
    exact ⟨(L_set (by omega)).2 a, by rw [upd_ne _ _ hs70, upd_ne _ _ hs9]; exact b⟩
  · intro hl
    obtain ⟨a, b⟩ := h.e2 ((L_set (by omega)).1 hl)
    exact ⟨(L_set (by omega)).2 a, by rw [upd_ne _ _ hs2, upd_ne _ _ hs70]; exact b⟩
theorem LB.make {w0 : World} {rb g : Nat} {listed : Array Bool} {f : Nat → Value} {w : World} (h : LB w0 rb g listed f w) (hn : listed.getD 0 true = false) :
    LB w0 rb g (listed.setIfInBounds 0 true) (upd f 9 (.map (some w.heap.size))) (w.alloc (.map #[] 0)) := by
  have hb : Below w.heap.size w (w.alloc (.map #[] 0)) := (Below.refl _ _).alloc (Nat.le_refl _) _
  have h73 : ¬ L listed 73 := fun q => L_not hn (h.e1 q).1
  have hno : ∀ k, k < 12 → L listed (6 + 6 * k) → False := fun k hk q => L_not hn (h.e0 k hk q)
  refine ⟨by simp [h.size], h.box.below hb, h.below.trans (hb.mono h.below.size), h.gl, h.rbl, ?_, ?_, ?_, ?_, ?_⟩
  · intro i a1 a2 a3 hl
    rw [upd_ne _ _ (by unfold slotJ; omega)]
    exact (h.sl i a1 a2 a3 ((L_set (by omega)).1 hl)).below hb
  · intro hl
    exact ⟨_, [], upd_same _ _ _, h.below.size, Mp.new w, fun p hp => by simp at hp, fun k hk hl => (hno k hk ((L_set (by omega)).1 hl)).elim⟩
  · intro k hk hl; exact (hno k hk ((L_set (by omega)).1 hl)).elim
  · intro hl; exact (h73 ((L_set (by omega)).1 hl)).elim
  · intro hl; exact (h73 (h.e2 ((L_set (by omega)).1 hl)).1).elim
theorem LB.fresh {w0 : World} {rb g : Nat} {listed : Array Bool} {f : Nat → Value} {w : World} (h : LB w0 rb g listed f w) (k : Nat) (hk : k < 12) (hn : listed.getD (6 + 6 * k) true = false) (h0 : L listed 0) (h1 : L listed (5 + 6 * k)) :
    ∃ M l v, f 9 = .map (some M) ∧ f (14 + 5 * k) = v ∧ Mp w M l ∧ lookL (chK k) l = none ∧ ∀ w', Mp w' M (l ++ [(chK k, v)]) → w.grownBy w' (some M) → LB w0 rb g (listed.setIfInBounds (6 + 6 * k) true) f w' := by
  obtain ⟨M, l, b1, b2, b3, b4, b5⟩ := h.mp h0
  have hs := h.sl (5 + 6 * k) (by omega) (by omega) (by omega) h1
  have e1 : (5 + 6 * k - 1) % 6 = 4 := by omega
  have e2 : (5 + 6 * k - 1) / 6 = k := by omega
  have e3 : slotJ (5 + 6 * k) = 14 + 5 * k := by unfold slotJ; omega
  have ht : Tells w rb ⟨g, 5 + k, none⟩ (limitB (chK k)).1 (limitB (chK k)).2 (f (14 + 5 * k)) := by
    unfold cl at hs
    rw [e1, e2, e3] at hs
    simpa using hs
  refine ⟨M, l, f (14 + 5 * k), b1, rfl, b3, lookL_none (fun p hp e => ?_), fun w' hm hg => ?_⟩
  · obtain ⟨k', k1, k2, k3, _⟩ := b4 p hp
    have : k' = k := by rw [← pos_ch k' k1, ← pos_ch k hk, ← k3, e]
    subst this
    exact L_not hn k2
  · refine ⟨by simp [h.size], h.box.map b3 hg, h.below.grown hg h.below.size (fun q e => by cases e; exact b2), h.gl, h.rbl, ?_, ?_, ?_, ?_, ?_⟩
    · intro i a1 a2 a3 hl
      exact (h.sl i a1 a2 a3 ((L_set (by omega)).1 hl)).map b3 hg
    · intro hl
      refine ⟨M, _, b1, b2, hm, fun p hp => ?_, fun k' hk' hl => ?_⟩
      · rcases List.mem_append.1 hp with hp | hp
        · obtain ⟨k', k1, k2, k3, k4⟩ := b4 p hp
          refine ⟨k', k1, ?_, k3, k4.map b3 hg⟩
          by_cases e : k' = k
          · subst e; exact (L_not hn k2).elim
          · exact (L_set (by omega)).2 k2
        · simp only [List.mem_singleton] at hp
          subst hp
          exact ⟨k, hk, L_self hn, rfl, ht.map b3 hg⟩
      · by_cases e : k' = k
        · subst e; exact ⟨(chK k', f (14 + 5 * k')), by simp, rfl⟩
        · obtain ⟨p, hp, e'⟩ := b5 k' hk' ((L_set (by omega)).1 hl)
          exact ⟨p, by simp [hp], e'⟩
    · intro k' hk' hl; exact (L_set (by omega)).2 h0
    · intro hl
      obtain ⟨a, b⟩ := h.e1 ((L_set (by omega)).1 hl)
      exact ⟨(L_set (by omega)).2 a, b⟩
    · intro hl
      obtain ⟨a, b⟩ := h.e2 ((L_set (by omega)).1 hl)
      exact ⟨(L_set (by omega)).2 a, b⟩
theorem LB.copy {w0 : World} {rb g : Nat} {listed : Array Bool} {f : Nat → Value} {w : World} (h : LB w0 rb g listed f w) (h0 : L listed 0) : LB w0 rb g (listed.setIfInBounds 73 true) (upd f 70 (f 9)) w := by
  refine ⟨by simp [h.size], h.box, h.below, h.gl, h.rbl, ?_, ?_, ?_, ?_, ?_⟩
  · intro i a1 a2 a3 hl
    rw [upd_ne _ _ (by unfold slotJ; omega)]
    exact h.sl i a1 a2 a3 ((L_set (by omega)).1 hl)
  · intro hl
    obtain ⟨M, l, b1, b2, b3, b4, b5⟩ := h.mp h0
    refine ⟨M, l, by rw [upd_ne _ _ (by omega)]; exact b1, b2, b3, fun p hp => ?_, fun k hk hl => b5 k hk ((L_set (by omega)).1 hl)⟩
    obtain ⟨k, k1, k2, k3, k4⟩ := b4 p hp
    exact ⟨k, k1, (L_set (by omega)).2 k2, k3, k4⟩
  · intro k hk hl; exact (L_set (by omega)).2 h0
  · intro hl; exact ⟨(L_set (by omega)).2 h0, by rw [upd_same, upd_ne _ _ (by omega)]⟩
  · intro hl
    obtain ⟨a, b⟩ := h.e2 ((L_set (by omega)).1 hl)
    obtain ⟨c, d⟩ := h.e1 a
    exact ⟨getD_set_true a, by rw [upd_ne _ _ (by omega), upd_same, b, d]⟩
theorem LB.last {w0 : World} {rb g : Nat} {listed : Array Bool} {f : Nat → Value} {w : World} (h : LB w0 rb g listed f w) (h0 : L listed 73) : LB w0 rb g (listed.setIfInBounds 74 true) (upd f 2 (f 70)) w := by
  refine ⟨by simp [h.size], h.box, h.below, h.gl, h.rbl, ?_, ?_, ?_, ?_, ?_⟩
  · intro i a1 a2 a3 hl
    rw [upd_ne _ _ (by unfold slotJ; omega)]
    exact h.sl i a1 a2 a3 ((L_set (by omega)).1 hl)
  · intro hl
    obtain ⟨M, l, b1, b2, b3, b4, b5⟩ := h.mp ((L_set (by omega)).1 hl)
    refine ⟨M, l, by rw [upd_ne _ _ (by omega)]; exact b1, b2, b3, fun p hp => ?_, fun k hk hl => b5 k hk ((L_set (by omega)).1 hl)⟩
    obtain ⟨k, k1, k2, k3, k4⟩ := b4 p hp
    exact ⟨k, k1, (L_set (by omega)).2 k2, k3, k4⟩
  · intro k hk hl; exact (L_set (by omega)).2 (h.e0 k hk ((L_set (by omega)).1 hl))
  · intro hl
    obtain ⟨a, b⟩ := h.e1 ((L_set (by omega)).1 hl)
    exact ⟨(L_set (by omega)).2 a, by rw [upd_ne _ _ (by omega), upd_ne _ _ (by omega)]; exact b⟩
  · intro hl; exact ⟨(L_set (by omega)).2 h0, by rw [upd_same, upd_ne _ _ (by omega)]⟩
theorem LB.all {w0 : World} {rb g : Nat} {listed : Array Bool} {f : Nat → Value} {w : World} (h : LB w0 rb g listed f w) (ha : ∀ j, j < 75 → L listed j) : ∃ M, f 2 = .map (some M) ∧ Lets w rb g M ∧ Below w0.heap.size w0 w := by
  obtain ⟨M, l, b1, b2, b3, b4, b5⟩ := h.mp (ha 0 (by omega))
  obtain ⟨_, c1⟩ := h.e1 (ha 73 (by omega))
  obtain ⟨_, c2⟩ := h.e2 (ha 74 (by omega))
  have := h.gl
  have := h.rbl
  refine ⟨M, by rw [c2, c1, b1], ⟨h.box, ⟨by omega, by omega⟩, l, b3, fun p hp => ?_, fun c hc => ?_⟩, h.below⟩
  · obtain ⟨k, k1, k2, k3, k4⟩ := b4 p hp
    rw [k3, pos_ch k k1]
    exact ⟨ch_mem k k1, k4⟩
  · obtain ⟨p1, p2⟩ := ch_pos c hc
    obtain ⟨p, hp, e⟩ := b5 (posB c) p1 (ha _ (by omega))
    exact ⟨p, hp, by rw [e, p2]⟩
end Go.Proofs.YtildplbdhnodjaaDoor
/- The program's package read: whether a letter was told: the library's Index and Contains at characters; a style that says nothing. -/
namespace Go.Proofs.YtildplbdhnodjaaDoor
open Go.RowKit
set_option linter.unusedVariables false
set_option linter.unusedSimpArgs false
def enc32 (z : Int) : List Value := [.int .i32 z]
theorem enc32_len (z : Int) : (enc32 z).length = 1 := rfl
theorem index_any (zs : List Int) (A : Option Addr) (n c' : Nat) (c : Int) (w : World) (hR : Rows 1 enc32 w A n zs) :
    Calls Tryd.prog 85 #[.slice A n c', .int .i32 c] w fun e w' => ∃ r : Int, e = .returned (.int .i64 r) ∧ decide (0 ≤ r) = decide (c ∈ zs) ∧ w = w' := by
  have hn := hR.2.1
  have hlen := hR.1
  have HR := Lib.hid hR
  clear hR
  go_enter Tryd.func85, Tryd.ntmps85
  go_wp2_with fail
  go_loopw [8] (fun v wr => ∃ k : Nat, k ≤ n ∧ v = .int .i64 k ∧ (∀ j, j < k → zs[j]? ≠ some c) ∧ wr = w) (fun v _ => n - (intOf v).toNat)
  case atStart => exact ⟨0, by omega, rfl, fun j hj => by omega, rfl⟩
  case round =>
    obtain ⟨k, hk, rfl, hno, rfl⟩ := hrel
    have HN := Lib.hid hno
    clear hno
    by_cases hlt : k < n
    · obtain ⟨b, off, z, rfl, hb, hx, hc⟩ := HR.out.at_ hlt
      have c0 : wr.cell? ⟨b, off + k, none⟩ = some (.int .i32 z) := by have := hc 0 _ rfl; simpa using this
      have HX := Lib.hid hx
      clear hx hc
      have h2 : (k : Int) < (n : Int) := by omega
      by_cases hz : z = c
      · subst hz
        have HM := Lib.hid (List.mem_of_getElem? HX.out)
        go_wp2_with fail
        go_ret
        exact ⟨k, rfl, by rw [decide_eq_true (show (0 : Int) ≤ (k : Int) by omega), decide_eq_true HM.out], rfl⟩
      · have hz2 : (c == z) = false := by simp; exact fun h => hz h.symm
        go_wp2_with fail
        go_roundw
        case rel => exact ⟨k + 1, by omega, by go_num, fun j hj => by
          by_cases e : j = k
          · subst e; rw [HX.out]; simpa using hz
          · exact HN.out j (by omega), by first | rfl | trivial⟩
        case measure => simp [intOf]; omega
    · have h2 : (n : Int) ≤ (k : Int) := by omega
      have HM := Lib.hid (show c ∉ zs from fun hm => by
        obtain ⟨j, hj, e⟩ := List.getElem_of_mem hm
        exact HN.out j (by omega) (by rw [List.getElem?_eq_getElem hj, e]))
      go_wp2_with fail
      go_ret
      exact ⟨-1, rfl, by rw [decide_eq_false HM.out]; rfl, rfl⟩
theorem contains_to {zs : List Int} {A : Option Addr} {n c' : Nat} {c : Int} {v : Bool} (hv : decide (c ∈ zs) = v) (w : World) (hR : Rows 1 enc32 w A n zs) :
    Calls Tryd.prog 73 #[.slice A n c', .int .i32 c] w fun e w' => e = .returned (.bool v) ∧ w = w' := by
  have HR := Lib.hid hR
  have HV := Lib.hid hv
  clear hR hv
  go_enter Tryd.func73, Tryd.ntmps73
  go_wp2_with fail
  refine (index_any zs A n c' c w HR.out).mono ?_
  rintro e w' ⟨r, rfl, hr, rfl⟩
  have HQ := Lib.hid hr
  clear hr
  go_wp2_with fail
  go_ret
  exact ⟨ret_bool (by rw [← HV.out, ← HQ.out]), rfl⟩
theorem plain_any (w : World) : Calls Tryd.prog 19 #[] w fun e w' => e = .returned (.agg (encS12 .plain).toArray) ∧ Below w.heap.size w w' := by
  go_enter Tryd.func19, Tryd.ntmps19
  go_wp2_with fail
  first
    | (go_ret; exact ⟨rfl, Below.refl _ _⟩)
    | (refine bodyPost_ret (v := .agg (encS12 .plain).toArray) (by simp [results, Tryd.results19, go_sem, encS12, Sty.plain]) rfl ⟨rfl, by go_grown⟩)
end Go.Proofs.YtildplbdhnodjaaDoor
