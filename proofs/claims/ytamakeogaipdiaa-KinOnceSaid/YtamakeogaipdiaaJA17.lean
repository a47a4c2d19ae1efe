import Derived.Test.YtamakeogaipdiaaJA12
/- The program's package valid: a node is counted. (Written by program: tools/drafts/gentake.py.) -/
namespace Go.Proofs.Ytamakeogaipdiaa
open Go.RowKit
set_option linter.unusedVariables false
set_option linter.unusedSimpArgs false
theorem int_infoV : (Try.prog.info? 3).map (fun i => (i.zero, i.size, i.bytes)) = some (some (.int .i64 0), 1, 8) := by kernel_rfl
theorem palone_ex {m : NdM} {x : Nd} {a b c d : Int} (hv : aloneS x = ⟨a, b, c, d⟩) (w : World) (hS : Shows w m x) (hf : x.fits) : Calls Try.prog 91 #[.agg (encM m).toArray] w fun e w' => e = .returned (.agg #[.int .i64 a, .int .i64 b, .int .i64 c, .int .i64 d]) ∧ Below w.heap.size w w' := palone_to hv w hS hf
theorem ptogether_ex {s x : Sm} {a b c d : Int} (hy : plusS s x = ⟨a, b, c, d⟩) {g k : Nat} (w : World) (hB : Box w g [.int .i64 s.depth, .int .i64 s.pieces, .int .i64 s.nodes, .int .i64 s.heights, .int .i64 x.depth, .int .i64 x.pieces, .int .i64 x.nodes, .int .i64 x.heights])
    (hs : (0 ≤ s.depth ∧ wr s.pieces = s.pieces ∧ (0 ≤ s.nodes ∧ s.nodes ≤ 1152921504606846976) ∧ 0 ≤ s.heights ∧ s.heights ≤ 1099511627777) ∧ 0 ≤ x.depth ∧ (0 ≤ x.nodes ∧ x.nodes ≤ 1152921504606846976) ∧ 0 ≤ x.heights ∧ x.heights ≤ 1152921504606846976) :
    Calls Try.prog 90 #[.slice (some ⟨g, 0, none⟩) 2 k] w fun e w' => e = .returned (.agg #[.int .i64 a, .int .i64 b, .int .i64 c, .int .i64 d]) ∧ Below w.heap.size w w' := ptogether_to hy w hB hs.1.1 hs.1.2.1 hs.1.2.2.1 hs.1.2.2.2 hs.2.1 hs.2.2.1 hs.2.2.2
theorem grown_trans {a b c : World} {row : Option Nat} (h : a.grownBy b row) (k : b.grownBy c row) : a.grownBy c row :=
  ⟨k.os.trans h.os, k.tape.trans h.tape, k.output.trans h.output, Nat.le_trans h.size k.size, fun i hi hr => (k.block i (Nat.lt_of_lt_of_le hi h.size) hr).trans (h.block i hi hr)⟩
theorem grown_below {a b : World} (h : Below a.heap.size a b) (row : Option Nat) : a.grownBy b row := ⟨h.os, h.tape, h.output, h.size, fun i hi _ => h.block i hi⟩
/-- sums that nothing overflows. -/
def Sm.small (s : Sm) : Prop := 0 ≤ s.depth ∧ wr s.pieces = s.pieces ∧ (0 ≤ s.nodes ∧ s.nodes ≤ 1152921504606846976) ∧ 0 ≤ s.heights ∧ s.heights ≤ 1099511627777
/-- what is counted when x is, of which many blocks are open. -/
def takeS (s : Sm) (x : Nd) (many : Nat) : Sm := if x.kind = 1 then ⟨max (plusS s (aloneS x)).depth many, (plusS s (aloneS x)).pieces, (plusS s (aloneS x)).nodes, (plusS s (aloneS x)).heights⟩ else plusS s (aloneS x)
theorem alone_small {x : Nd} (hf : x.fits) (hx : x.words.length ≤ 9223372036854775807) : 0 ≤ (aloneS x).depth ∧ (0 ≤ (aloneS x).nodes ∧ (aloneS x).nodes ≤ 1152921504606846976) ∧ 0 ≤ (aloneS x).heights ∧ (aloneS x).heights ≤ 1152921504606846976 := by
  obtain ⟨h1, h2, _⟩ := alone_high hf hx
  exact ⟨Int.le_refl _, ⟨by show (0 : Int) ≤ 1; decide, by show (1 : Int) ≤ 1152921504606846976; decide⟩, h1, by omega⟩
set_option maxHeartbeats 8000000 in
set_option maxRecDepth 100000 in
theorem ptake_any (D : Nat) (w : World) (s : Sm) (A : Option Addr) (k c : Nat) (es : List Int) (i : Int) (m : NdM) (x : Nd) (h : Cnt (D + 1) D w s A (k + 1) c es) (hS : Shows w m x) (hf : x.fits) (hs : s.small) (hwl : x.words.length ≤ 9223372036854775807) (hi : 0 ≤ i ∧ i ≤ 2305843009213693952) (hsz : 0 ≤ x.size ∧ x.size ≤ 2305843009213693952) (hk : k ≤ 1000000) :
    Calls Try.prog 74 #[.pointer (some ⟨D, 0, none⟩), .int .i64 i, .agg (encM m).toArray] w fun e w' => e = .returned (.tuple #[]) ∧ (∃ A' k' c', Cnt (D + 1) D w' (takeS s x (k + 1)) A' k' c' (es ++ if x.kind = 1 then [i + x.size] else [])) ∧ Below D w w' := by
  show Calls Try.prog 74 #[.pointer (some ⟨D, 0, none⟩), .int .i64 i, .agg #[.int .i64 m.kind, .int .i64 m.size, .int .i64 m.sty.top, .int .i64 m.sty.bottom, .int .i64 m.sty.padTop, .int .i64 m.sty.padBottom, .int .i64 m.sty.inset, .int .i64 m.sty.orphans, .int .i64 m.sty.widows, .int .i64 m.sty.head, .int .i64 m.sty.before, .int .i64 m.sty.after, .int .i64 m.sty.inside, .int .i64 m.sty.clear, .int .i64 m.line, .int .i64 m.space, .slice m.A m.n m.c, .int .i64 m.side, .int .i64 m.w, .int .i64 m.h]] w _
  obtain ⟨j0, hj0, hy0, hy1, hy2⟩ := info_parts int_infoV
  have hsmall := alone_small hf hwl
  obtain ⟨a, ha⟩ : ∃ a, aloneS x = a := ⟨_, rfl⟩
  obtain ⟨t, ht⟩ : ∃ t, plusS s a = t := ⟨_, rfl⟩
  have HT := Lib.hid (show takeS s x (k + 1) = if x.kind = 1 then ⟨max t.depth ((k + 1 : Nat) : Int), t.pieces, t.nodes, t.heights⟩ else t by unfold takeS; rw [ha, ht])
  rw [ha] at hsmall
  obtain ⟨a0, a1, a2, a3⟩ := a
  obtain ⟨t0, t1, t2, t3⟩ := t
  obtain ⟨s0, s1, s2, s3⟩ := s
  have HP := Lib.hid (And.intro hs hsmall)
  have HA := Lib.hid ha
  have HQ := Lib.hid ht
  have hkind := hS.1.1
  have hsize := hS.1.2.1
  have H := Lib.hid h
  have HS := Lib.hid hS
  have HF := Lib.hid hf
  have hlt := h.blk.box.1
  have hne : ¬ D = w.heap.size := by omega
  clear hs hsmall ha ht h hS hf
  go_enter Try.func74, Try.ntmps74
  go_wp2_with fail
  generalize hW : w.alloc (.cells #[.int .i64 m.kind, .int .i64 m.size, .int .i64 m.sty.top, .int .i64 m.sty.bottom, .int .i64 m.sty.padTop, .int .i64 m.sty.padBottom, .int .i64 m.sty.inset, .int .i64 m.sty.orphans, .int .i64 m.sty.widows, .int .i64 m.sty.head, .int .i64 m.sty.before, .int .i64 m.sty.after, .int .i64 m.sty.inside, .int .i64 m.sty.clear, .int .i64 m.line, .int .i64 m.space, .slice m.A m.n m.c, .int .i64 m.side, .int .i64 m.w, .int .i64 m.h] 45) = W
  have hbW : Below w.heap.size w W := by rw [← hW]; go_grown
  have hX : Blk W w.heap.size 45 [.int .i64 m.kind, .int .i64 m.size, .int .i64 m.sty.top, .int .i64 m.sty.bottom, .int .i64 m.sty.padTop, .int .i64 m.sty.padBottom, .int .i64 m.sty.inset, .int .i64 m.sty.orphans, .int .i64 m.sty.widows, .int .i64 m.sty.head, .int .i64 m.sty.before, .int .i64 m.sty.after, .int .i64 m.sty.inside, .int .i64 m.sty.clear, .int .i64 m.line, .int .i64 m.space, .slice m.A m.n m.c, .int .i64 m.side, .int .i64 m.w, .int .i64 m.h] := by rw [← hW]; exact Blk.new w 45 [.int .i64 m.kind, .int .i64 m.size, .int .i64 m.sty.top, .int .i64 m.sty.bottom, .int .i64 m.sty.padTop, .int .i64 m.sty.padBottom, .int .i64 m.sty.inset, .int .i64 m.sty.orphans, .int .i64 m.sty.widows, .int .i64 m.sty.head, .int .i64 m.sty.before, .int .i64 m.sty.after, .int .i64 m.sty.inside, .int .i64 m.sty.clear, .int .i64 m.line, .int .i64 m.space, .slice m.A m.n m.c, .int .i64 m.side, .int .i64 m.w, .int .i64 m.h] _ rfl _ rfl
  have HSz := Lib.hid (show W.heap.size = w.heap.size + 1 by rw [← hW]; simp)
  have hC := H.out.on hbW
  have HX := Lib.hid hX
  have HC := Lib.hid hC
  have HBW := Lib.hid hbW
  have HR := Lib.hid (range_on (w := W) (b := w.heap.size) (o := 0) (cs := encM m) (fun j v hv => by rw [Nat.zero_add]; exact hX.box.2.2 j v hv))
  have c0 := On.cell (hC.blk.box.2.2 0 _ rfl)
  have c1 := On.cell (hC.blk.box.2.2 1 _ rfl)
  have c2 := On.cell (hC.blk.box.2.2 2 _ rfl)
  have c3 := On.cell (hC.blk.box.2.2 3 _ rfl)
  have HS1 := Lib.hid (HS.out.below hbW)
  clear hW hbW hX hC
  refine wp_region_held_tail 11 (S := fun W' => On W W') (by kernel_rfl) (by kernel_rfl) rfl (On.refl _).drew (fun h0 => ?_)
  simp only [headOf, List.take_succ_cons, List.take_zero, List.getElem_toArray, List.getElem_cons_succ, List.getElem_cons_zero]
  refine wpAnyH_take (i := 0) (v := ?_) rfl (by kernel_rfl) (by kernel_rfl) (by kernel_rfl) (fun _ _ _ h => h) (Or.inl ⟨by rfl, ?_⟩) h0 ?_
  rotate_left
  · intro w hSw; (try dsimp only at hSw); go_simp; with_reducible rfl
  try simp only [Act.put, List.getElem_toArray, List.getElem_cons_succ, List.getElem_cons_zero, List.setIfInBounds_toArray, List.set_cons_zero, List.set_cons_succ]
  refine wpAnyH_take (i := 1) (v := ?_) rfl (by kernel_rfl) (by kernel_rfl) (by kernel_rfl) (fun _ _ _ h => h) (Or.inl ⟨by rfl, ?_⟩) h0 ?_
  rotate_left
  · intro w hSw; (try dsimp only at hSw); go_simp; with_reducible rfl
  try simp only [Act.put, List.getElem_toArray, List.getElem_cons_succ, List.getElem_cons_zero, List.setIfInBounds_toArray, List.set_cons_zero, List.set_cons_succ]
  refine wpAnyH_take (i := 2) (v := ?_) rfl (by kernel_rfl) (by kernel_rfl) (by kernel_rfl) (fun _ _ _ h => h) (Or.inl ⟨by rfl, ?_⟩) h0 ?_
  rotate_left
  · intro w hSw; (try dsimp only at hSw); go_simp; with_reducible rfl
  try simp only [Act.put, List.getElem_toArray, List.getElem_cons_succ, List.getElem_cons_zero, List.setIfInBounds_toArray, List.set_cons_zero, List.set_cons_succ]
  refine wpAnyH_take (i := 3) (v := ?_) rfl (by kernel_rfl) (by kernel_rfl) (by kernel_rfl) (fun _ _ _ h => h) (Or.inl ⟨by rfl, ?_⟩) h0 ?_
  rotate_left
  · intro w hSw; (try dsimp only at hSw); go_simp; with_reducible rfl
  try simp only [Act.put, List.getElem_toArray, List.getElem_cons_succ, List.getElem_cons_zero, List.setIfInBounds_toArray, List.set_cons_zero, List.set_cons_succ]
  refine wpAnyH_take (i := 4) (v := ?_) rfl (by kernel_rfl) (by kernel_rfl) (by kernel_rfl) (fun _ _ _ h => h) (Or.inl ⟨by rfl, ?_⟩) h0 ?_
  rotate_left
  · intro w hSw; (try dsimp only at hSw); go_simp; with_reducible rfl
  try simp only [Act.put, List.getElem_toArray, List.getElem_cons_succ, List.getElem_cons_zero, List.setIfInBounds_toArray, List.set_cons_zero, List.set_cons_succ]
  refine wpAnyH_take (i := 5) (v := ?_) rfl (by kernel_rfl) (by kernel_rfl) (by kernel_rfl) (fun _ _ _ h => h) ?_ h0 ?_
  rotate_left
  · refine yieldsIf_load_mid ?_ 45 (.tmp 5) ?_ w.heap.size 0 ?_ (encM m) _ HR.out Try.underlying45 rfl (by kernel_rfl) <;> rfl
  try simp only [Act.put, List.getElem_toArray, List.getElem_cons_succ, List.getElem_cons_zero, List.setIfInBounds_toArray, List.set_cons_zero, List.set_cons_succ]
  refine wpAnyH_ready (rs := [6]) (by kernel_rfl) (by simp) ?_
  refine AllReadyH.cons rfl (fun K hK => ?_) AllReadyH.nil
  go_simp
  refine (palone_ex HA.out _ (HS1.out.below h0) HF.out).mono ?_
  rintro e v1 ⟨rfl, hb⟩
  refine hK.out _ _ (On.step h0 hb) (fun h1 => ?_)
  clear hK K hb
  try simp only [Act.put, List.getElem_toArray, List.getElem_cons_succ, List.getElem_cons_zero, List.setIfInBounds_toArray, List.set_cons_zero, List.set_cons_succ]
  refine wpAnyH_ready (rs := [7]) (by kernel_rfl) (by simp) ?_
  refine AllReadyH.cons rfl (fun K hK => ?_) AllReadyH.nil
  go_simp
  refine hK.out _ _ (On.alloc h1 _) (fun h2 => ?_)
  clear hK K
  try simp only [Act.put, List.getElem_toArray, List.getElem_cons_succ, List.getElem_cons_zero, List.setIfInBounds_toArray, List.set_cons_zero, List.set_cons_succ]
  refine wpAnyH_ready (rs := [8]) (by kernel_rfl) (by simp) ?_
  refine AllReadyH.cons rfl (fun K hK => ?_) AllReadyH.nil
  go_simp
  refine (ptogether_ex HQ.out _ (box_new _ _ _ _ rfl _ rfl) HP.out).mono ?_
  rintro e v2 ⟨rfl, hb⟩
  refine hK.out _ _ (On.step h2 hb) (fun h3 => ?_)
  clear hK K hb h2 h1
  try simp only [Act.put, List.getElem_toArray, List.getElem_cons_succ, List.getElem_cons_zero, List.setIfInBounds_toArray, List.set_cons_zero, List.set_cons_succ]
  refine wpAnyH_take (i := 9) (v := ?_) rfl (by kernel_rfl) (by kernel_rfl) (by kernel_rfl) (fun _ _ _ h => h) (Or.inl ⟨by rfl, ?_⟩) h3 ?_
  rotate_left
  · intro w hSw; (try dsimp only at hSw); go_simp; with_reducible rfl
  try simp only [Act.put, List.getElem_toArray, List.getElem_cons_succ, List.getElem_cons_zero, List.setIfInBounds_toArray, List.set_cons_zero, List.set_cons_succ]
  refine wpAnyH_take (i := 10) (v := ?_) rfl (by kernel_rfl) (by kernel_rfl) (by kernel_rfl) (fun _ _ _ h => h) (Or.inl ⟨by rfl, ?_⟩) h3 ?_
  rotate_left
  · intro w hSw; (try dsimp only at hSw); go_simp; with_reducible rfl
  try simp only [Act.put, List.getElem_toArray, List.getElem_cons_succ, List.getElem_cons_zero, List.setIfInBounds_toArray, List.set_cons_zero, List.set_cons_succ]
  refine wpAnyH_done (by kernel_rfl) ?_ _
  show wpList _ _ _ _ _ _
  have HX1 := Lib.hid (HX.out.on h3)
  have hC1 := HC.out.on h3
  have HC1 := Lib.hid hC1
  have HB1 := Lib.hid (below_then HBW.out (h3.mono (by have := HSz.out; omega)))
  clear c0 c1 c2 c3 h3 h0
  have c0 := hC1.blk.box.2.2 0 _ rfl
  have c1 := hC1.blk.box.2.2 1 _ rfl
  have c2 := hC1.blk.box.2.2 2 _ rfl
  have c3 := hC1.blk.box.2.2 3 _ rfl
  have f0 := hC1.blk.box.2.1 0
  have f1 := hC1.blk.box.2.1 1
  have f2 := hC1.blk.box.2.1 2
  have f3 := hC1.blk.box.2.1 3
  have hl := hC1.blk.box.1
  have hx0 := HX1.out.box.2.2 0 _ rfl
  have hx1 := HX1.out.box.2.2 1 _ rfl
  clear hC1
  have hCntV : ∀ V : World, V = (((v2.setCell ⟨D, 0, none⟩ (.int .i64 t0)).setCell ⟨D, 1, none⟩ (.int .i64 t1)).setCell ⟨D, 2, none⟩ (.int .i64 t2)).setCell ⟨D, 3, none⟩ (.int .i64 t3) → Cnt (D + 1) D V ⟨t0, t1, t2, t3⟩ A (k + 1) c es ∧ Blk V w.heap.size 45 [.int .i64 m.kind, .int .i64 m.size, .int .i64 m.sty.top, .int .i64 m.sty.bottom, .int .i64 m.sty.padTop, .int .i64 m.sty.padBottom, .int .i64 m.sty.inset, .int .i64 m.sty.orphans, .int .i64 m.sty.widows, .int .i64 m.sty.head, .int .i64 m.sty.before, .int .i64 m.sty.after, .int .i64 m.sty.inside, .int .i64 m.sty.clear, .int .i64 m.line, .int .i64 m.space, .slice m.A m.n m.c, .int .i64 m.side, .int .i64 m.w, .int .i64 m.h] ∧ Below D w V := by
    rintro V rfl
    refine ⟨⟨(((HC1.out.blk.set 0 _).set 1 _).set 2 _).set 3 _, owns_only HC1.out.row ((((OnlyAt.refl D v2).set 0 _).set 1 _).set 2 _ |>.set 3 _) HC1.out.blk (by decide)⟩, (((HX1.out.set_other hne _ _).set_other hne _ _).set_other hne _ _).set_other hne _ _, ?_⟩
    exact (((((show Below D w v2 from HB1.out.mono (by omega))).setCell (Nat.le_refl _) _).setCell (Nat.le_refl _) _).setCell (Nat.le_refl _) _).setCell (Nat.le_refl _) _
  have HCV := Lib.hid hCntV
  clear hCntV
  by_cases hk1 : x.kind = 1
  rotate_left
  · have hkk : (m.kind == 1) = false := by rw [← hkind]; simpa using hk1
    have HK1 := Lib.hid hk1
    clear hk1 hkind
    go_wp2_with fail
    go_returns
    obtain ⟨q1, q2, q3⟩ := HCV.out _ rfl
    refine ⟨rfl, ⟨A, k + 1, c, ?_⟩, q3⟩
    have e1 := HT.out
    rw [if_neg HK1.out] at e1
    rw [e1]
    simpa only [if_neg HK1.out, List.append_nil] using q1
  have hkk : (m.kind == 1) = true := by rw [← hkind]; simpa using hk1
  have HK1 := Lib.hid hk1
  have HSx := Lib.hid hsize
  have hms : 0 ≤ m.size ∧ m.size ≤ 2305843009213693952 := by rw [← hsize]; exact hsz
  obtain ⟨ms1, ms2⟩ := hms
  obtain ⟨hi1, hi2⟩ := hi
  clear hk1 hkind hsize hsz
  go_wp2_with fail
  obtain ⟨V, hV⟩ : ∃ V, V = (((v2.setCell ⟨D, 0, none⟩ (.int .i64 t0)).setCell ⟨D, 1, none⟩ (.int .i64 t1)).setCell ⟨D, 2, none⟩ (.int .i64 t2)).setCell ⟨D, 3, none⟩ (.int .i64 t3) := ⟨_, rfl⟩
  rw [← hV]
  obtain ⟨q1, q2, q3⟩ := HCV.out _ hV
  clear c0 c1 c2 c3 f0 f1 f2 f3 hl hx0 hx1 hV
  have hrow := q1.row.lt
  have hroww := H.out.row.lt
  have rD : some D ≠ (Value.slice A (k + 1) c).ownBlock := fun e => by have := hrow D e.symm; omega
  have rX : some w.heap.size ≠ (Value.slice A (k + 1) c).ownBlock := fun e => by have := hroww _ e.symm; omega
  have c4 : ∀ W', V.grownBy W' (Value.slice A (k + 1) c).ownBlock → W'.cell? ⟨D, 4, none⟩ = some (.slice A (k + 1) c) := fun W' hW => hW.cell (q1.blk.box.2.2 4 _ rfl) rD
  have x1 : ∀ W', V.grownBy W' (Value.slice A (k + 1) c).ownBlock → W'.cell? ⟨w.heap.size, 1, none⟩ = some (.int .i64 m.size) := fun W' hW => hW.cell (q2.box.2.2 1 _ rfl) rX
  have HC2 := Lib.hid q1
  have HX2 := Lib.hid q2
  have HB2 := Lib.hid q3
  have hwr : IntKind.i64.wrap (i + m.size) = i + m.size := by rw [IntKind.wrap_i64]; omega
  have HrD := Lib.hid rD
  have HrX := Lib.hid rX
  have hDV := q1.blk.box.1
  have hDb := q3.size
  clear q1 q2 q3 hrow hroww rD rX
  refine wp_region_held_tail 13 (S := fun W' => V.grownBy W' (Value.slice A (k + 1) c).ownBlock) (by kernel_rfl) (by kernel_rfl) rfl (grown_below (Below.refl _ _).drew _) (fun h0 => ?_)
  simp only [headOf, List.take_succ_cons, List.take_zero, List.getElem_toArray, List.getElem_cons_succ, List.getElem_cons_zero]
  refine wpAnyH_take (i := 0) (v := ?_) rfl (by kernel_rfl) (by kernel_rfl) (by kernel_rfl) (fun _ _ _ h => h) (Or.inl ⟨by rfl, ?_⟩) h0 ?_
  rotate_left
  · intro w hSw; (try dsimp only at hSw); go_simp; with_reducible rfl
  try simp only [Act.put, List.getElem_toArray, List.getElem_cons_succ, List.getElem_cons_zero, List.setIfInBounds_toArray, List.set_cons_zero, List.set_cons_succ]
  refine wpAnyH_take (i := 1) (v := ?_) rfl (by kernel_rfl) (by kernel_rfl) (by kernel_rfl) (fun _ _ _ h => h) (Or.inl ⟨by rfl, ?_⟩) h0 ?_
  rotate_left
  · intro w hSw; (try dsimp only at hSw); go_simp; with_reducible rfl
  try simp only [Act.put, List.getElem_toArray, List.getElem_cons_succ, List.getElem_cons_zero, List.setIfInBounds_toArray, List.set_cons_zero, List.set_cons_succ]
  refine wpAnyH_take (i := 2) (v := ?_) rfl (by kernel_rfl) (by kernel_rfl) (by kernel_rfl) (fun _ _ _ h => h) (Or.inl ⟨by rfl, ?_⟩) h0 ?_
  rotate_left
  · intro w hSw; (try dsimp only at hSw); go_simp; with_reducible rfl
  try simp only [Act.put, List.getElem_toArray, List.getElem_cons_succ, List.getElem_cons_zero, List.setIfInBounds_toArray, List.set_cons_zero, List.set_cons_succ]
  refine wpAnyH_take (i := 3) (v := ?_) rfl (by kernel_rfl) (by kernel_rfl) (by kernel_rfl) (fun _ _ _ h => h) (Or.inl ⟨by rfl, ?_⟩) h0 ?_
  rotate_left
  · intro w hSw; (try dsimp only at hSw); go_simp; with_reducible rfl
  try simp only [Act.put, List.getElem_toArray, List.getElem_cons_succ, List.getElem_cons_zero, List.setIfInBounds_toArray, List.set_cons_zero, List.set_cons_succ]
  refine wpAnyH_take (i := 4) (v := ?_) rfl (by kernel_rfl) (by kernel_rfl) (by kernel_rfl) (fun _ _ _ h => h) (Or.inl ⟨by rfl, ?_⟩) h0 ?_
  rotate_left
  · intro w hSw; (try dsimp only at hSw); go_simp; with_reducible rfl
  try simp only [Act.put, List.getElem_toArray, List.getElem_cons_succ, List.getElem_cons_zero, List.setIfInBounds_toArray, List.set_cons_zero, List.set_cons_succ]
  refine wpAnyH_take (i := 5) (v := ?_) rfl (by kernel_rfl) (by kernel_rfl) (by kernel_rfl) (fun _ _ _ h => h) (Or.inl ⟨by rfl, ?_⟩) h0 ?_
  rotate_left
  · intro w hSw; (try dsimp only at hSw); go_simp; with_reducible rfl
  try simp only [Act.put, List.getElem_toArray, List.getElem_cons_succ, List.getElem_cons_zero, List.setIfInBounds_toArray, List.set_cons_zero, List.set_cons_succ]
  refine wpAnyH_take (i := 6) (v := ?_) rfl (by kernel_rfl) (by kernel_rfl) (by kernel_rfl) (fun _ _ _ h => h) (Or.inl ⟨by rfl, ?_⟩) h0 ?_
  rotate_left
  · intro w hSw; (try dsimp only at hSw); go_simp; with_reducible rfl
  try simp only [Act.put, List.getElem_toArray, List.getElem_cons_succ, List.getElem_cons_zero, List.setIfInBounds_toArray, List.set_cons_zero, List.set_cons_succ]
  refine wpAnyH_take (i := 7) (v := ?_) rfl (by kernel_rfl) (by kernel_rfl) (by kernel_rfl) (fun _ _ _ h => h) (Or.inl ⟨by rfl, ?_⟩) h0 ?_
  rotate_left
  · intro w hSw; (try dsimp only at hSw); go_simp; with_reducible rfl
  try simp only [Act.put, List.getElem_toArray, List.getElem_cons_succ, List.getElem_cons_zero, List.setIfInBounds_toArray, List.set_cons_zero, List.set_cons_succ]
  refine wpAnyH_take (i := 8) (v := ?_) rfl (by kernel_rfl) (by kernel_rfl) (by kernel_rfl) (fun _ _ _ h => h) (Or.inl ⟨by rfl, ?_⟩) h0 ?_
  rotate_left
  · intro w hSw; (try dsimp only at hSw); go_simp; with_reducible rfl
  try simp only [Act.put, List.getElem_toArray, List.getElem_cons_succ, List.getElem_cons_zero, List.setIfInBounds_toArray, List.set_cons_zero, List.set_cons_succ]
  refine wpAnyH_ready (rs := [9]) (by kernel_rfl) (by simp) ?_
  refine AllReadyH.cons rfl (fun K hK => ?_) AllReadyH.nil
  go_simp
  refine hK.out _ _ (grown_trans h0 (grown_below (Below.alloc (Below.refl _ V.drew) (Nat.le_refl _) _) _)) (fun h1 => ?_)
  clear hK K
  try simp only [Act.put, List.getElem_toArray, List.getElem_cons_succ, List.getElem_cons_zero, List.setIfInBounds_toArray, List.set_cons_zero, List.set_cons_succ]
  have hO4 := owns_below HC2.out.row (w' := (V.alloc (.cells #[.int .i64 (i + m.size)] 3)).drew) (by go_grown)
  have hC4 := ((Ints.new1 V 3 (i + m.size)).below (w' := (V.alloc (.cells #[.int .i64 (i + m.size)] 3)).drew) (Below.refl _ _).drew rfl).cells
  refine wpAnyH_ready (rs := [10]) (by kernel_rfl) (by simp) ?_
  refine AllReadyH.cons rfl (fun K hK => ?_) AllReadyH.nil
  refine step_append_cells _ rfl (.tmp 24) (.tmp 29) _ rfl (D + 1) 3 j0 (.int .i64 0) 1 8 Try.underlying23 hj0 hy0 hy1 hy2 rfl (by decide) _ (k + 1) _ rfl hO4 _ 1 1 _ rfl hC4 (by intro u hu; simp at hu; subst hu; rfl) (by unfold maxLen; omega) (by omega) (by simp; omega) ?_
  intro A4 c4' w4 hown4 hg4
  refine hK.out _ _ (grown_trans h1 hg4) (fun h2 => ?_)
  clear hK K
  try simp only [Act.put, List.getElem_toArray, List.getElem_cons_succ, List.getElem_cons_zero, List.setIfInBounds_toArray, List.set_cons_zero, List.set_cons_succ]
  refine wpAnyH_take (i := 11) (v := ?_) rfl (by kernel_rfl) (by kernel_rfl) (by kernel_rfl) (fun _ _ _ h => h) (Or.inl ⟨by rfl, ?_⟩) h2 ?_
  rotate_left
  · intro w hSw; (try dsimp only at hSw); go_simp; with_reducible rfl
  try simp only [Act.put, List.getElem_toArray, List.getElem_cons_succ, List.getElem_cons_zero, List.setIfInBounds_toArray, List.set_cons_zero, List.set_cons_succ]
  refine wpAnyH_take (i := 12) (v := ?_) rfl (by kernel_rfl) (by kernel_rfl) (by kernel_rfl) (fun _ _ _ h => h) (Or.inl ⟨by rfl, ?_⟩) h2 ?_
  rotate_left
  · intro w hSw; (try dsimp only at hSw); go_simp; with_reducible rfl
  try simp only [Act.put, List.getElem_toArray, List.getElem_cons_succ, List.getElem_cons_zero, List.setIfInBounds_toArray, List.set_cons_zero, List.set_cons_succ]
  refine wpAnyH_done (by kernel_rfl) ?_ _
  show wpList _ _ _ _ _ _
  have hblk : Blk w4 D 90 (cntL ⟨t0, t1, t2, t3⟩ A (k + 1) c) := (h2.block D hDV HrD.out).trans HC2.out.blk
  have hb4 : Below D w w4 := HB2.out.trans ((Below.refl _ _).grown h2 (by omega) (fun r e => by have := HC2.out.row.lt r e; omega))
  have f4 := hblk.box.2.1 4
  have d4 := hblk.box.2.2 4 _ rfl
  have hDl := hblk.box.1
  have HK4 := Lib.hid hblk
  have HO4 := Lib.hid hown4
  have HB4 := Lib.hid hb4
  clear c4 x1 h0 h1 h2 hO4 hC4 hown4 hg4 hblk hb4
  go_wp2_with fail
  have hblk5 : Blk (w4.setCell ⟨D, 4, none⟩ (.slice A4 (k + 1 + 1) c4')) D 90 (cntL ⟨t0, t1, t2, t3⟩ A4 (k + 1 + 1) c4') := HK4.out.set 4 _
  have hown5 := owns_only HO4.out ((OnlyAt.refl D w4).set 4 (.slice A4 (k + 1 + 1) c4')) HK4.out (by decide)
  have HB5 := Lib.hid (Below.setCell HB4.out (p := ⟨D, 4, none⟩) (Nat.le_refl _) (.slice A4 (k + 1 + 1) c4'))
  generalize w4.setCell ⟨D, 4, none⟩ (.slice A4 (k + 1 + 1) c4') = U at hblk5 hown5 HB5
  have d0 := hblk5.box.2.2 0 _ rfl
  have d4 := hblk5.box.2.2 4 _ rfl
  have f0 := hblk5.box.2.1 0
  have hDl := hblk5.box.1
  have HK5 := Lib.hid hblk5
  have HO5 := Lib.hid hown5
  clear hblk5 hown5
  go_wp2_with fail
  go_region
  go_wp2_with fail
  go_returns
  have e1 := HT.out
  rw [if_pos HK1.out] at e1
  have e2 : es.map (Value.int .i64) ++ [.int .i64 (i + m.size)] = (es ++ [i + x.size]).map (Value.int .i64) := by rw [HSx.out]; simp
  rw [e1]
  refine ⟨rfl, ⟨A4, k + 1 + 1, c4', ?_, ?_⟩, (HB5.out.setCell (Nat.le_refl _) _).drew⟩
  · exact (HK5.out.set 0 _).drew
  · rw [← e2]
    exact owns_only HO5.out (((OnlyAt.refl D U).set 0 _).drew) HK5.out (by decide)
end Go.Proofs.Ytamakeogaipdiaa
