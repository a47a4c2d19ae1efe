import Derived.Test.YtechccoongilcaaDoorJD712
import Derived.Test.YtechccoongilcaaDoorJD708
import Derived.Test.YtechccoongilcaaDoorJD700
import Derived.Test.YtechccoongilcaaDoorJD701
import Derived.BigQuiet
/- The program's package read: a text's numbers and words. -/
namespace Go.Proofs.YtechccoongilcaaDoor
open Go.RowKit
set_option linter.unusedVariables false
set_option linter.unusedSimpArgs false
/-- a number stands there, whatever it is. -/
def kdB (l : List Tok) (i : Nat) : Bool := match l[i]? with
  | some t => t.kind == 2
  | none => false
/-- words, one behind the other. -/
inductive WordsS (toks : List Tok) : Nat → Bool → List Int → Nat → Bool → List Int → Prop
  | stop {j b ws} : (!b && kdB toks j) = false → WordsS toks j b ws j b ws
  | step {j b ws n j' b' jr br wr} : (!b && kdB toks j) = true → numS toks j b 1 maxN = (n, j', b') → WordsS toks j' b' (ws ++ [n]) jr br wr → WordsS toks j b ws jr br wr
theorem Bar.then' {g B : Nat} {w w' w'' : World} (h : Bar g w w') (hb : Below B w' w'') (hB : w.heap.size ≤ B) : Bar g w w'' :=
  ⟨hb.os.trans h.os, hb.tape.trans h.tape, hb.output.trans h.output, Nat.le_trans h.size hb.size, fun k hk hg => (hb.block k (by omega)).trans (h.block k hk hg)⟩
theorem Box.below' {w w' : World} {B n : Nat} {vs : List Value} (h : Box w n vs) (hb : Below B w w') (hn : n < B) : Box w' n vs := by
  have e := hb.block n hn
  exact ⟨Nat.lt_of_lt_of_le h.1 hb.size, fun o => (World.frozen?_of_block (w := w) (a := ⟨n, o, none⟩) e).trans (h.2.1 o), fun j v hv => (World.cell?_of_block (w := w) (a := ⟨n, j, none⟩) e).trans (h.2.2 j v hv)⟩
theorem Bar.far {g n : Nat} {w w' : World} (h : Bar g w w') (hn : w.heap.size ≤ n) (j : Nat) (v : Value) : Bar g w (w'.setCell ⟨n, j, none⟩ v) :=
  ⟨h.os, h.tape, h.output, by simpa using h.size, fun k hk hg => (Below.heap_setCell _ _ _ _ (fun e => by simp at e; omega)).trans (h.block k hk hg)⟩
theorem Bar.far3 {g n : Nat} {w w' : World} (h : Bar g w w') (hn : w.heap.size ≤ n) (a b c : Value) : Bar g w (((w'.setCell ⟨n, 0, none⟩ a).setCell ⟨n, 1, none⟩ b).setCell ⟨n, 2, none⟩ c) := ((h.far hn 0 a).far hn 1 b).far hn 2 c
theorem owns_new1 (w : World) (e : TypeId) (v : Value) (base : Nat) (hb : base ≤ w.heap.size) (n : Nat) (hn : n = w.heap.size) : (w.alloc (.cells #[v] e)).ownsRow base e 1 (.slice (some ⟨n, 0, none⟩) 1 1) 1 [v] := by
  subst hn
  exact ⟨rfl, .inr ⟨w.heap.size, 1, #[v], rfl, hb, World.alloc_heap_new w _, by decide, by decide, by simp, by simp⟩⟩
theorem blk_apart {w : World} {T : Nat} {t e : TypeId} {vs : List Value} {base size n : Nat} {v : Value} {xs : List Value} (h : Blk w T t vs) (hne : t ≠ e) (ho : w.ownsRow base e size v n xs) : ∀ k, v.ownBlock = some k → k ≠ T := by
  intro k hk e'
  subst e'
  rcases ho.2 with ⟨q, _⟩ | ⟨g, cap, cur, q, _, q3, _⟩
  · rw [q] at hk; cases hk
  · rw [q] at hk
    injection hk with hk
    rw [show k = g from hk.symm] at h
    rw [show w.heap[g]? = _ from h] at q3
    injection q3 with q3
    injection q3 with _ q3 _
    exact hne q3
set_option maxRecDepth 100000 in
set_option maxHeartbeats 4000000 in
theorem owns_set_ne {w : World} {base : Nat} {e : TypeId} {size : Nat} {v : Value} {n : Nat} {xs : List Value} (h : w.ownsRow base e size v n xs) {m : Nat} (hm : ∀ k, v.ownBlock = some k → k ≠ m) (j : Nat) (u : Value) : (w.setCell ⟨m, j, none⟩ u).ownsRow base e size v n xs := by
  refine ⟨h.1, ?_⟩
  rcases h.2 with h2 | ⟨g, cap, cur, h1, h2, h3, h4⟩
  · exact .inl h2
  · exact .inr ⟨g, cap, cur, h1, h2, (Below.heap_setCell _ _ _ _ (fun e => hm g (by rw [h1]; rfl) (by simpa using e))).trans h3, h4⟩
/-- a text that is read: X holds it, D will hold the answer. -/
structure TxtV (toks : List Tok) (size : Int) (g : Nat) (row opn : Value) (s : Sty) (mp : Value) (W : World) (D : Nat) (n1 n2 : Int) (V : World) (X j : Nat) (b : Bool) (A : Option Addr) (m c : Nat) (ws : List Int) : Prop where
  rd : Rd toks size g V j b row opn s mp
  box : Blk V X 111 [.int .i64 n1, .int .i64 n2, .slice A m c]
  own : V.ownsRow (D + 1) 3 1 (.slice A m c) m (ws.map (Value.int .i64))
  ne : ∀ k, (Value.slice A m c).ownBlock = some k → k ≠ X
  res : Box V D [.int .i64 0, .int .i64 0, .slice none 0 0]
  bar : Bar g W V
  lt : D < X
section
variable {toks : List Tok} {size : Int} {g : Nat} {row opn : Value} {s : Sty} {mp : Value} {W : World} {D : Nat} {n1 n2 n3 : Int} {w6 : World} {j : Nat} {b : Bool}
theorem TxtV.formA (hr : Rd toks size g w6 j b row opn s mp) (hb : Bar g W w6) (hG : Box W D [.int .i64 0, .int .i64 0, .slice none 0 0]) (hg : g < D) (hs : w6.heap.size = D + 1) :
    TxtV toks size g row opn s mp W D n1 n2 ((w6.alloc (.cells #[.int .i64 n3] 3)).alloc (.cells #[.int .i64 n1, .int .i64 n2, .slice (some ⟨D + 1, 0, none⟩) 1 1] 111)) (D + 1 + 1) j b (some ⟨D + 1, 0, none⟩) 1 1 [n3] := by
  have hal : Below w6.heap.size w6 ((w6.alloc (.cells #[.int .i64 n3] 3)).alloc (.cells #[.int .i64 n1, .int .i64 n2, .slice (some ⟨D + 1, 0, none⟩) 1 1] 111)) := by go_grown
  refine ⟨hr.below hal, Blk.new _ _ _ _ (by simp [hs]) _ rfl, ?_, fun k hk => by cases hk; show D + 1 ≠ D + 1 + 1; omega, ((hG.bar hb (by omega)).alloc _).alloc _, (hb.alloc _).alloc _, by omega⟩
  exact owns_below (owns_new1 w6 3 (.int .i64 n3) (D + 1) (by omega) (D + 1) hs.symm) ((Below.refl _ _).alloc (Nat.le_refl _) _)
theorem TxtV.formB (hr : Rd toks size g w6 j b row opn s mp) (hb : Bar g W w6) (hG : Box W D [.int .i64 0, .int .i64 0, .slice none 0 0]) (hg : g < D) (hs : w6.heap.size = D + 1) :
    TxtV toks size g row opn s mp W D n1 n2 ((w6.alloc (.cells #[.int .i64 n1, .int .i64 n2, .slice (some ⟨D + 1 + 1, 0, none⟩) 1 1] 111)).alloc (.cells #[.int .i64 n3] 3)) (D + 1) j b (some ⟨D + 1 + 1, 0, none⟩) 1 1 [n3] := by
  have hal : Below w6.heap.size w6 ((w6.alloc (.cells #[.int .i64 n1, .int .i64 n2, .slice (some ⟨D + 1 + 1, 0, none⟩) 1 1] 111)).alloc (.cells #[.int .i64 n3] 3)) := by go_grown
  refine ⟨hr.below hal, (Blk.new _ _ _ _ (by simp [hs]) _ rfl).alloc _, ?_, fun k hk => by cases hk; show D + 1 + 1 ≠ D + 1; omega, ((hG.bar hb (by omega)).alloc _).alloc _, (hb.alloc _).alloc _, by omega⟩
  exact owns_new1 _ 3 (.int .i64 n3) (D + 1) (by simp; omega) (D + 1 + 1) (by simp [hs])
theorem TxtV.formC (hr : Rd toks size g w6 j b row opn s mp) (hb : Bar g W w6) (hG : Box W D [.int .i64 0, .int .i64 0, .slice none 0 0]) (hg : g < D) (hs : w6.heap.size = D + 1 + 1) (hW : W.heap.size = D + 1) (hX : Blk w6 (D + 1) 111 [.int .i64 0, .int .i64 0, .slice none 0 0]) :
    TxtV toks size g row opn s mp W D n1 n2 ((((w6.setCell ⟨D + 1, 0, none⟩ (.int .i64 n1)).setCell ⟨D + 1, 1, none⟩ (.int .i64 n2)).setCell ⟨D + 1, 2, none⟩ (.slice (some ⟨D + 1 + 1, 0, none⟩) 1 1)).alloc (.cells #[.int .i64 n3] 3)) (D + 1) j b (some ⟨D + 1 + 1, 0, none⟩) 1 1 [n3] := by
  have hal : Below (g + 1) w6 ((((w6.setCell ⟨D + 1, 0, none⟩ (.int .i64 n1)).setCell ⟨D + 1, 1, none⟩ (.int .i64 n2)).setCell ⟨D + 1, 2, none⟩ (.slice (some ⟨D + 1 + 1, 0, none⟩) 1 1)).alloc (.cells #[.int .i64 n3] 3)) := by
    refine Below.alloc ?_ (by simp; omega) _
    exact Below.setCell (Below.setCell (Below.setCell (Below.refl _ _) (by simp only; omega) _) (by simp only; omega) _) (by simp only; omega) _
  have hx := (((hX.set 0 (.int .i64 n1)).set 1 (.int .i64 n2)).set 2 (.slice (some ⟨D + 1 + 1, 0, none⟩) 1 1)).alloc (.cells #[.int .i64 n3] 3)
  refine ⟨hr.low hal, hx, ?_, fun k hk => by cases hk; show D + 1 + 1 ≠ D + 1; omega, ((((hG.bar hb (by omega)).set_other (by omega) _ _).set_other (by omega) _ _).set_other (by omega) _ _).alloc _, (hb.far3 (by omega) _ _ _).alloc _, by omega⟩
  exact owns_new1 _ 3 (.int .i64 n3) (D + 1) (by simp; omega) (D + 1 + 1) (by simp [hs])
end
def TxtA (g D X R : Nat) (n1 n2 n3 : Int) : Act := ⟨#[.pointer (some ⟨g, 0, none⟩), undef, .pointer (some ⟨D, 0, none⟩), .pointer (some ⟨X, 0, none⟩), .pointer (some ⟨g, 0, none⟩), .pointer (some ⟨g, 0, none⟩), .pointer (some ⟨g, 0, none⟩), .int .i64 n1, .pointer (some ⟨g, 0, none⟩), .pointer (some ⟨g, 0, none⟩), .pointer (some ⟨g, 0, none⟩), .int .i64 n2, .pointer (some ⟨g, 0, none⟩), .pointer (some ⟨g, 0, none⟩), .pointer (some ⟨g, 0, none⟩), .int .i64 n3, .slice (some ⟨R, 0, none⟩) 1 1, .agg #[.int .i64 n1, .int .i64 n2, .slice (some ⟨R, 0, none⟩) 1 1], undef, undef, undef, undef, undef, undef, undef, undef, undef, undef, undef, undef, undef, undef, undef, undef, undef, undef, undef, undef, undef, undef, undef, undef, undef], []⟩
theorem int_info : (Tryd.prog.info? 3).map (fun i => (i.zero, i.size, i.bytes)) = some (some (.int .i64 0), 1, 8) := by kernel_rfl
set_option maxHeartbeats 4000000 in
set_option maxRecDepth 100000 in
theorem ptext_to {toks : List Tok} {size : Int} {g : Nat} {w : World} {i j1 j2 j3 : Nat} {wr b1 b2 b3 : Bool} {n1 n2 n3 : Int} {row opn : Value} {s : Sty} {mp : Value}
    (hv1 : numS toks i wr 1 maxN = (n1, j1, b1)) (hv2 : numS toks j1 b1 0 maxN = (n2, j2, b2)) (hv3 : numS toks j2 b2 1 maxN = (n3, j3, b3)) (h : Rd toks size g w i wr row opn s mp) (hlen : toks.length ≤ 900000) :
    Calls Tryd.prog 59 #[.pointer (some ⟨g, 0, none⟩)] w fun e w' => ∃ A m c j b ws, e = .returned (.agg #[.int .i64 n1, .int .i64 n2, .slice A m c]) ∧ WordsS toks j3 b3 [n3] j b ws ∧
      w'.ownsRow w.heap.size 3 1 (.slice A m c) m (ws.map (Value.int .i64)) ∧ Bar g w w' ∧ Rd toks size g w' j b row opn s mp := by
  obtain ⟨q0, hq0, hy0, hy1, hy2⟩ := info_parts int_info
  have HV1 := Lib.hid hv1
  have HV2 := Lib.hid (show numS toks j1 b1 0 1099511627776 = (n2, j2, b2) from hv2)
  have HV3 := Lib.hid hv3
  have HR := Lib.hid h
  have g0 := h.lt
  clear hv1 hv2 hv3 h
  obtain ⟨D, hD⟩ : ∃ D, w.heap.size = D := ⟨_, rfl⟩
  go_enter Tryd.func59, Tryd.ntmps59
  go_wp2_with fail
  generalize hW : w.alloc (.cells #[.int .i64 0, .int .i64 0, .slice none 0 0] 111) = W
  have hG : Box W D [.int .i64 0, .int .i64 0, .slice none 0 0] := by rw [← hW]; exact box_new _ _ _ _ hD.symm _ rfl
  have HR := Lib.hid (show Rd toks size g W.drew i wr row opn s mp from (by rw [← hW]; exact (HR.out.below ((Below.refl _ _).alloc (Nat.le_refl _) _)).bar (Bar.refl g _).drew rfl))
  have HB := Lib.hid (show Bar g w W.drew by rw [← hW]; exact ((Bar.refl g w).alloc _).drew)
  have hWs : W.heap.size = D + 1 := by rw [← hW, ← hD]; simp
  have HG := Lib.hid hG
  have HBw := Lib.hid (show Bar g w W by rw [← hW]; exact (Bar.refl g w).alloc _)
  clear hW hG
  have HRal := Lib.hid (show ∀ o, Rd toks size g (W.alloc o).drew i wr row opn s mp from fun o => HR.out.below (w' := (W.alloc o).drew) (by have h := (Below.refl W.heap.size W).alloc (Nat.le_refl _) o; exact ⟨h.os, h.tape, h.output, h.size, h.block⟩))
  have hXg : D + 1 ≠ g := by omega
  refine Code.wp_mono (Q := fun e a V => e = Exit.normal ∧ ∃ X R, a = (TxtA g D X R n1 n2 n3) ∧ TxtV toks size g row opn s mp W D n1 n2 V X j3 b3 (some ⟨R, 0, none⟩) 1 1 [n3]) ?_ ?_
  rotate_left
  · go_region_held3 (fun W' => Bar g W W') (first | exact (Bar.refl g _).drew | exact HBa.out | exact Bar.alloc (by assumption) _ | exact (HBa.out.alloc _).alloc _ | exact (HBa.out.far3 (by omega) _ _ _).alloc _ | exact (HBa.out.alloc _).far3 (by omega) _ _ _) (first
      | (go_at_call 60; ((with_reducible refine (plen_to HV1.out (HR.out)).mono ?_); rintro e w4 ⟨rfl, hb, hs4, hr⟩; (try simp at hs4); have HR1 := Lib.hid hr; have HBa := Lib.hid (Bar.trans (show Bar g W _ by assumption) hb); clear hr; first | (have HX := Lib.hid (HX.out.bar hb hXg); obtain ⟨⟨x0, x1, x2⟩, ⟨y0, y1, y2⟩, x3⟩ := box3_of HX.out.box) | skip))
      | (go_at_call 60; ((with_reducible refine (plen_to HV1.out (HRal.out _)).mono ?_); rintro e w4 ⟨rfl, hb, hs4, hr⟩; (try simp at hs4); have HR1 := Lib.hid hr; have HBa := Lib.hid (Bar.trans (show Bar g W _ by assumption) hb); clear hr; have HX := Lib.hid ((Blk.new _ 111 [.int .i64 0, .int .i64 0, .slice none 0 0] (D + 1) (by simp [*]) _ rfl).drew.bar hb hXg); obtain ⟨⟨x0, x1, x2⟩, ⟨y0, y1, y2⟩, x3⟩ := box3_of HX.out.box))
      | (go_at_call 57; ((with_reducible refine (pnum_to HV2.out (HR1.out)).mono ?_); rintro e w5 ⟨rfl, hb, hs5, hr⟩; (try simp at hs5); have HR2 := Lib.hid hr; have HBa := Lib.hid (Bar.trans (show Bar g W _ by assumption) hb); clear hr; first | (have HX := Lib.hid (HX.out.bar hb hXg); obtain ⟨⟨x0, x1, x2⟩, ⟨y0, y1, y2⟩, x3⟩ := box3_of HX.out.box) | skip))
      | (go_at_call 57; ((with_reducible refine (pnum_to HV2.out (HR1.out.below ((Below.refl _ _).alloc (Nat.le_refl _) _))).mono ?_); rintro e w5 ⟨rfl, hb, hs5, hr⟩; (try simp at hs5); have HR2 := Lib.hid hr; have HBa := Lib.hid (Bar.trans (show Bar g W _ by assumption) hb); clear hr; have HX := Lib.hid ((Blk.new _ 111 [.int .i64 0, .int .i64 0, .slice none 0 0] (D + 1) (by simp [*]) _ rfl).bar hb hXg); obtain ⟨⟨x0, x1, x2⟩, ⟨y0, y1, y2⟩, x3⟩ := box3_of HX.out.box))
      | (go_at_call 60; ((with_reducible refine (plen_to HV3.out (HR2.out)).mono ?_); rintro e w6 ⟨rfl, hb, hs6, hr⟩; (try simp at hs6); have HR3 := Lib.hid hr; have HBa := Lib.hid (Bar.trans (show Bar g W _ by assumption) hb); clear hr; first | (have HX := Lib.hid (HX.out.bar hb hXg); obtain ⟨⟨x0, x1, x2⟩, ⟨y0, y1, y2⟩, x3⟩ := box3_of HX.out.box) | skip))
      | (go_at_call 60; ((with_reducible refine (plen_to HV3.out (HR2.out.below ((Below.refl _ _).alloc (Nat.le_refl _) _))).mono ?_); rintro e w6 ⟨rfl, hb, hs6, hr⟩; (try simp at hs6); have HR3 := Lib.hid hr; have HBa := Lib.hid (Bar.trans (show Bar g W _ by assumption) hb); clear hr; have HX := Lib.hid ((Blk.new _ 111 [.int .i64 0, .int .i64 0, .slice none 0 0] (D + 1) (by simp [*]) _ rfl).bar hb hXg); obtain ⟨⟨x0, x1, x2⟩, ⟨y0, y1, y2⟩, x3⟩ := box3_of HX.out.box)))
    all_goals
      have hst := (HR3.out).le
      first
        | exact ⟨rfl, _, _, rfl, TxtV.formA (n1 := n1) (n2 := n2) (n3 := n3) HR3.out HBa.out HG.out (by omega) (by omega)⟩
        | exact ⟨rfl, _, _, rfl, TxtV.formB (n1 := n1) (n2 := n2) (n3 := n3) HR3.out HBa.out HG.out (by omega) (by omega)⟩
        | exact ⟨rfl, _, _, rfl, TxtV.formC (n1 := n1) (n2 := n2) (n3 := n3) HR3.out HBa.out HG.out (by omega) (by omega) (by omega) HX.out⟩
  · rintro e a V ⟨rfl, X, R, rfl, hT⟩
    have HT := Lib.hid hT
    have HW0 := Lib.hid (show ∀ jr br r, WordsS toks j3 b3 [n3] jr br r → WordsS toks j3 b3 [n3] jr br r from fun _ _ _ h => h)
    have HBw := HBw
    clear hT HR HRal HG HB
    dsimp only [TxtA]
    go_wp2_with fail
    go_loopw [18] (fun _ wr => ∃ (j : Nat) (b : Bool) (A : Option Addr) (m c : Nat) (ws : List Int), TxtV toks size g row opn s mp W D n1 n2 wr X j b A m c ws ∧ (∀ jr br r, WordsS toks j b ws jr br r → WordsS toks j3 b3 [n3] jr br r) ∧ m + 1 ≤ j + 2 + b.toNat) (fun _ wr => meas wr g)
    case atStart => exact ⟨j3, b3, _, _, _, _, HT.out, HW0.out, by omega⟩
    case round =>
      clear HT HW0
      obtain ⟨j, b, A, m, c, ws, hT, hws, hbd⟩ := hrel
      have HT := Lib.hid hT
      have HWs := Lib.hid hws
      have hjl := hT.rd.le
      have hXg2 : X ≠ g := by have := hT.lt; omega
      have hDX := hT.lt
      have hms := hT.rd.meas
      have g1 := hT.rd.lt
      have hml : m ≤ 2000000 := by cases b <;> simp at hbd <;> omega
      obtain ⟨⟨x0, x1, x2⟩, ⟨y0, y1, y2⟩, x3⟩ := box3_of hT.box.box
      obtain ⟨⟨r0, r1, r2⟩, ⟨e0, e1, e2⟩, r3⟩ := box3_of hT.res
      clear hT hws
      rcases hq : (!b && kdB toks j) with _ | _
      · have HWE := Lib.hid (HWs.out _ _ _ (.stop hq))
        by_cases hmo : (!b && decide (j < toks.length)) = false
        · have HM := Lib.hid (more_to hmo HT.out.rd)
          clear hq hmo
          go_wp2_with (go_at_call 32; refine HM.out.mono ?_; rintro e w' ⟨rfl, rfl⟩)
          refine bodyPost_ret (v := .agg #[.int .i64 n1, .int .i64 n2, .slice A m c]) (by simp [results, Tryd.results59, go_sem, r0, r1, r2, hDX, Nat.ne_of_lt hDX]) rfl ?_
          exact ⟨A, m, c, j, b, ws, rfl, HWE.out, by rw [hD]; exact owns_up (owns_set (owns_set (owns_set HT.out.own (by omega) _ _) (by omega) _ _) (by omega) _ _) (by omega), HBw.out.trans HT.out.bar |>.far3 (by omega) _ _ _, HT.out.rd.low (Below.setCell (Below.setCell (Below.setCell (Below.refl _ _) (by simp only; omega) _) (by simp only; omega) _) (by simp only; omega) _)⟩
        · have hmo : (!b && decide (j < toks.length)) = true := by simpa using hmo
          have hbf : b = false := by cases b with | false => rfl | true => simp at hmo
          subst hbf
          have hil : j < toks.length := by simpa using hmo
          have HM := Lib.hid (more_to hmo HT.out.rd)
          obtain ⟨A0, m0, c0', l1, l2, l3, l4, l5⟩ := HT.out.rd
          have hm0 := l1.1
          rw [List.length_drop] at hm0
          have hm02 := l1.2.1
          obtain ⟨p, off, x, y, u, z, rfl, hbl, hx, ⟨d0, d1, d2, d3⟩, htl⟩ := left_at l1 (by omega)
          have c0 : wr.cell? ⟨g, 0, none⟩ = some (.slice (some ⟨p, off, none⟩) m0 c0') := l5.box.2.2 0 _ rfl
          have hxk : (x == 2) = false := by
            have : kdB toks j = (x == 2) := by unfold kdB; rw [hx]
            rw [← this]; simpa using hq
          have hpos : (0 : Int) < (m0 : Int) := by omega
          clear hq hmo l1 l5 htl hx hm0
          go_wp2_with (go_at_call 32; refine HM.out.mono ?_; rintro e w' ⟨rfl, rfl⟩)
          refine bodyPost_ret (v := .agg #[.int .i64 n1, .int .i64 n2, .slice A m c]) (by simp [results, Tryd.results59, go_sem, r0, r1, r2, hDX, Nat.ne_of_lt hDX]) rfl ?_
          exact ⟨A, m, c, j, _, ws, rfl, HWE.out, by rw [hD]; exact owns_up (owns_set (owns_set (owns_set HT.out.own (by omega) _ _) (by omega) _ _) (by omega) _ _) (by omega), HBw.out.trans HT.out.bar |>.far3 (by omega) _ _ _, HT.out.rd.low (Below.setCell (Below.setCell (Below.setCell (Below.refl _ _) (by simp only; omega) _) (by simp only; omega) _) (by simp only; omega) _)⟩
      · have hbf : b = false := by cases b with | false => rfl | true => simp at hq
        subst hbf
        have hk : kdB toks j = true := by simpa using hq
        have hil : j < toks.length := by
          unfold kdB at hk
          rcases hj : toks[j]? with _ | t
          · rw [hj] at hk; cases hk
          · exact (List.getElem?_eq_some_iff.1 hj).1
        have HM := Lib.hid (more_to (v := true) (by simp [hil]) HT.out.rd)
        obtain ⟨⟨n, j4, b4⟩, h4⟩ : ∃ q, numS toks j false 1 maxN = q := ⟨_, rfl⟩
        have H4 := Lib.hid h4
        have HW4 := Lib.hid (show ∀ jr br r, WordsS toks j4 b4 (ws ++ [n]) jr br r → WordsS toks j3 b3 [n3] jr br r from fun jr br r h => HWs.out jr br r (.step hq h4 h))
        have hst4 : (if b4 then j4 = j else j4 = j + 1) := by
          unfold numS at h4
          split at h4
          · cases h4; rfl
          · cases h4; rfl
        obtain ⟨A0, m0, c0', l1, l2, l3, l4, l5⟩ := HT.out.rd
        have hm0 := l1.1
        rw [List.length_drop] at hm0
        have hm02 := l1.2.1
        obtain ⟨p, off, x, y, u, z, rfl, hbl, hx, ⟨d0, d1, d2, d3⟩, htl⟩ := left_at l1 (by omega)
        have c0 : wr.cell? ⟨g, 0, none⟩ = some (.slice (some ⟨p, off, none⟩) m0 c0') := l5.box.2.2 0 _ rfl
        have hxk : (x == 2) = true := by
          have : kdB toks j = (x == 2) := by unfold kdB; rw [hx]
          rw [← this]; exact hk
        have hx2 : x = 2 := by simpa using hxk
        subst hx2
        have hpos : (0 : Int) < (m0 : Int) := by omega
        clear hq hk l1 l5 htl hx hm0 hxk h4
        go_wp2_with (go_at_call 32; refine HM.out.mono ?_; rintro e w' ⟨rfl, rfl⟩)
        refine wp_region_held_tail 9 (S := fun W' => W'.cell? ⟨X, 2, none⟩ = some (.slice A m c)) (by kernel_rfl) (by kernel_rfl) rfl x2 (fun h0 => ?_)
        simp only [headOf, List.take_succ_cons, List.take_zero, List.getElem_toArray, List.getElem_cons_succ, List.getElem_cons_zero]
        refine wpAnyH_take (i := 0) (v := ?_) rfl (by kernel_rfl) (by kernel_rfl) (by kernel_rfl) (fun _ _ _ h => h) (Or.inl ⟨by rfl, ?_⟩) h0 ?_
        rotate_left
        · intro w hSw; (try dsimp only at hSw); go_simp; with_reducible rfl
        try simp only [Act.put, List.setIfInBounds_toArray, List.set_cons_zero, List.set_cons_succ]
        refine wpAnyH_take (i := 1) (v := ?_) rfl (by kernel_rfl) (by kernel_rfl) (by kernel_rfl) (fun _ _ _ h => h) (Or.inl ⟨by rfl, ?_⟩) h0 ?_
        rotate_left
        · intro w hSw; (try dsimp only at hSw); go_simp; with_reducible rfl
        try simp only [Act.put, List.setIfInBounds_toArray, List.set_cons_zero, List.set_cons_succ]
        refine wpAnyH_take (i := 2) (v := ?_) rfl (by kernel_rfl) (by kernel_rfl) (by kernel_rfl) (fun _ _ _ h => h) (Or.inl ⟨by rfl, ?_⟩) h0 ?_
        rotate_left
        · intro w hSw; (try dsimp only at hSw); go_simp; with_reducible rfl
        try simp only [Act.put, List.setIfInBounds_toArray, List.set_cons_zero, List.set_cons_succ]
        refine wpAnyH_take (i := 3) (v := ?_) rfl (by kernel_rfl) (by kernel_rfl) (by kernel_rfl) (fun _ _ _ h => h) (Or.inl ⟨by rfl, ?_⟩) h0 ?_
        rotate_left
        · intro w hSw; (try dsimp only at hSw); go_simp; with_reducible rfl
        try simp only [Act.put, List.setIfInBounds_toArray, List.set_cons_zero, List.set_cons_succ]
        refine wpAnyH_take (i := 4) (v := ?_) rfl (by kernel_rfl) (by kernel_rfl) (by kernel_rfl) (fun _ _ _ h => h) (Or.inl ⟨by rfl, ?_⟩) h0 ?_
        rotate_left
        · intro w hSw; (try dsimp only at hSw); go_simp; with_reducible rfl
        try simp only [Act.put, List.setIfInBounds_toArray, List.set_cons_zero, List.set_cons_succ]
        refine wpAnyH_ready (rs := [5]) (by kernel_rfl) (by simp) ?_
        refine AllReadyH.cons rfl (fun K hK => ?_) AllReadyH.nil
        go_simp
        refine (plen_to H4.out (HT.out.rd.bar (Bar.refl g _).drew rfl)).mono ?_
        rintro e w4 ⟨rfl, hb4, hs4, hr4⟩
        have hX4 := HT.out.box.drew.bar hb4 hXg2
        have hsz5 : D + 1 ≤ w4.heap.size := by simp at hs4; omega
        have HS4 := Lib.hid hs4
        clear hs4
        refine hK.out _ _ (hX4.box.2.2 2 _ rfl) (fun h1 => ?_)
        clear hK K
        try simp only [Act.put, List.setIfInBounds_toArray, List.set_cons_zero, List.set_cons_succ]
        refine wpAnyH_ready (rs := [6]) (by kernel_rfl) (by simp) ?_
        refine AllReadyH.cons rfl (fun K hK => ?_) AllReadyH.nil
        go_simp
        have hX5 := hX4.alloc (.cells #[.int .i64 n] 3)
        refine hK.out _ _ (hX5.box.2.2 2 _ rfl) (fun h2 => ?_)
        clear hK K
        try simp only [Act.put, List.setIfInBounds_toArray, List.set_cons_zero, List.set_cons_succ]
        have hal5 : Below w4.heap.size w4 (w4.alloc (.cells #[.int .i64 n] 3)) := (Below.refl _ w4).alloc (Nat.le_refl _) _
        have hO5 := owns_below (owns_bar HT.out.own ((Bar.refl g _).drew.trans hb4) (by omega)) hal5
        have hR5 := hr4.below hal5
        have hG5 := (HT.out.res.bar ((Bar.refl g _).drew.trans hb4) (by omega)).alloc (.cells #[.int .i64 n] 3)
        have hB5 := ((HT.out.bar.trans (Bar.refl g _).drew).trans hb4).alloc (.cells #[.int .i64 n] 3)
        have hC5 := (Ints.new1 w4 3 n).cells
        refine wpAnyH_ready (rs := [7]) (by kernel_rfl) (by simp) ?_
        refine AllReadyH.cons rfl (fun K hK => ?_) AllReadyH.nil
        refine step_append_cells _ rfl (.tmp 34) (.tmp 39) _ rfl (D + 1) 3 q0 (.int .i64 0) 1 8 Tryd.underlying42 hq0 hy0 hy1 hy2 rfl (by decide) _ m _ rfl hO5 _ 1 1 _ rfl hC5 (by intro u hu; simp at hu; subst hu; rfl) (by unfold maxLen; omega) (by omega) (by simp; omega) ?_
        intro A6 c6 w6 hown6 hg6
        have hX6 := hX5.grown hg6 (blk_apart hX5 (by decide) hO5)
        refine hK.out _ _ (hX6.box.2.2 2 _ rfl) (fun h3 => ?_)
        clear hK K
        try simp only [Act.put, List.setIfInBounds_toArray, List.set_cons_zero, List.set_cons_succ]
        refine wpAnyH_take (i := 8) (v := ?_) rfl (by kernel_rfl) (by kernel_rfl) (by kernel_rfl) (fun _ _ _ h => h) (Or.inl ⟨by rfl, ?_⟩) h3 ?_
        rotate_left
        · intro w hSw; (try dsimp only at hSw); go_simp; with_reducible rfl
        try simp only [Act.put, List.setIfInBounds_toArray, List.set_cons_zero, List.set_cons_succ]
        refine wpAnyH_done (by kernel_rfl) ?_ _
        show wpList _ _ _ _ _ _
        have hb6 : Below (D + 1) (w4.alloc (.cells #[.int .i64 n] 3)) w6 := (Below.refl _ _).grown hg6 (by simp; omega) (owns_block hO5)
        have hne6 := blk_apart hX6 (by decide) hown6
        have x26 : w6.cell? ⟨X, 2, none⟩ = some (.slice A m c) := hX6.box.2.2 2 _ rfl
        have y26 : w6.frozen? ⟨X, 2, none⟩ = false := hX6.box.2.1 2
        have hst := Below.setCell (hb6.mono (show g + 1 ≤ D + 1 by omega)) (p := ⟨X, 2, none⟩) (by simp only; omega) (.slice A6 (m + 1) c6)
        have HT7 : TxtV toks size g row opn s mp W D n1 n2 (w6.setCell ⟨X, 2, none⟩ (.slice A6 (m + 1) c6)) X j4 b4 A6 (m + 1) c6 (ws ++ [n]) := by
          refine ⟨hR5.low hst, hX6.set 2 _, ?_, hne6, (hG5.below' hb6 (by omega)).set_other (by omega) _ _, ?_, hDX⟩
          · rw [List.map_append]; exact owns_set_ne hown6 hne6 2 _
          · exact (hB5.then' hb6 (by omega)).far (by omega) 2 _
        have HT8 := Lib.hid HT7
        have hms7 := HT7.rd.meas
        clear HT7 hst hne6 hb6 hX6 hX5 hX4 hO5 hR5 hG5 hB5 hC5 hown6 hg6 h0 h1 h2 h3 hb4 hr4 x2 y2
        go_wp2_with fail
        go_roundw
        case rel => exact ⟨j4, b4, A6, m + 1, c6, ws ++ [n], HT8.out, HW4.out, by cases b4 <;> simp at hst4 hbd ⊢ <;> omega⟩
        case measure => rw [hms7, hms]; cases b4 <;> simp at hst4 ⊢ <;> omega
end Go.Proofs.YtechccoongilcaaDoor
