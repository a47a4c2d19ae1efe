import Derived.Test.YtkbpiekmphcdnaaRect2
import Derived.Test.YtkbpiekmphcdnaaSpanRows
import Derived.Test.YtkbpiekmphcdnaaSpanLaws
import Derived.BigRegion
/- The hull of rectangles: the program's, and the document's. -/
namespace Go.Proofs.Ytkbpiekmphcdnaa
open Go.RowKit
set_option linter.unusedVariables false
set_option linter.unusedSimpArgs false
def encR (r : Rc) : List Value := [.int .i64 r.x, .int .i64 r.y, .int .i64 r.w, .int .i64 r.h]
theorem encR_len (r : Rc) : (encR r).length = 4 := rfl
/-- an element of a row that came in: where it lies, and what it reads as, in every later world. -/
theorem rects_get {w : World} {A : Option Addr} {n : Nat} {zs : List Rc} (h : Rows 4 encR w A n zs) {i : Nat} (hi : i < n) :
    ∃ b off x y u v, A = some ⟨b, off, none⟩ ∧ b < w.heap.size ∧ zs[i]? = some ⟨x, y, u, v⟩ ∧ Hid (∀ w', Below w.heap.size w w' → (w'.cell? ⟨b, off + i * 4, none⟩ = some (.int .i64 x) ∧ w'.cell? ⟨b, off + i * 4 + 1, none⟩ = some (.int .i64 y) ∧ w'.cell? ⟨b, off + i * 4 + 2, none⟩ = some (.int .i64 u) ∧ w'.cell? ⟨b, off + i * 4 + 3, none⟩ = some (.int .i64 v)) ∧ b < w'.heap.size) := by
  obtain ⟨b, off, ⟨x, y, u, v⟩, h1, h2, h3, h4⟩ := h.at_ hi
  exact ⟨b, off, x, y, u, v, h1, h2, h3, fun w' hb => ⟨⟨(below_cell hb h2).trans (h4 0 _ rfl), (below_cell hb h2).trans (h4 1 _ rfl), (below_cell hb h2).trans (h4 2 _ rfl), (below_cell hb h2).trans (h4 3 _ rfl)⟩, Nat.lt_of_lt_of_le h2 hb.size⟩⟩
def set4 (w : World) (m : Nat) (a b c d : Value) : World := (((w.setCell ⟨m, 0, none⟩ a).setCell ⟨m, 1, none⟩ b).setCell ⟨m, 2, none⟩ c).setCell ⟨m, 3, none⟩ d
theorem Box.set4_other {w : World} {n m : Nat} {vs : List Value} (h : Box w n vs) (hm : m ≠ n) (a b c d : Value) : Box (set4 w m a b c d) n vs :=
  (((h.set_other hm 0 a).set_other hm 1 b).set_other hm 2 c).set_other hm 3 d
theorem Box.set4 {w : World} {n : Nat} {a' b' c' d' : Value} (h : Box w n [a', b', c', d']) (a b c d : Value) : Box (set4 w n a b c d) n [a, b, c, d] :=
  (((h.set 0 a (by simp)).set 1 b (by simp)).set 2 c (by simp)).set 3 d (by simp)
theorem below_set4 {B : Nat} {w w' : World} {m : Nat} (h : Below B w w') (hm : B ≤ m) (a b c d : Value) : Below B w (set4 w' m a b c d) :=
  Below.setCell (Below.setCell (Below.setCell (Below.setCell h hm a) hm b) hm c) hm d
theorem On.of4 {W : World} {n : Nat} {a b c d : Value} (h : Box W n [a, b, c, d]) : (∀ W', On W W' → W'.cell? ⟨n, 0, none⟩ = some a) ∧ (∀ W', On W W' → W'.cell? ⟨n, 1, none⟩ = some b) ∧ (∀ W', On W W' → W'.cell? ⟨n, 2, none⟩ = some c) ∧ (∀ W', On W W' → W'.cell? ⟨n, 3, none⟩ = some d) :=
  ⟨On.cell (h.2.2 0 _ rfl), On.cell (h.2.2 1 _ rfl), On.cell (h.2.2 2 _ rfl), On.cell (h.2.2 3 _ rfl)⟩
theorem hullStep_near {h x : Sp} (a : Near h.1 ∧ Near h.2) (b : Near x.1 ∧ Near x.2) : Near (hullStep h x).1 ∧ Near (hullStep h x).2 := by
  unfold hullStep
  split
  · exact a
  · split
    · exact b
    · unfold Near at *; simp only; omega
theorem hull2_near {x y : Sp} (a : Near x.1 ∧ Near x.2) (b : Near y.1 ∧ Near y.2) : Near (hullL [x, y]).1 ∧ Near (hullL [x, y]).2 :=
  hullStep_near (hullStep_near ⟨near_zero, near_zero⟩ a) b
theorem fit_near {r : Rc} (h : NearR r) : Fit r := by
  unfold NearR Near60 at h; unfold Fit Near; omega
theorem fit_hull {r : Rc} (h : HullROk r) : Fit r := by
  unfold Fit Near
  rcases h with rfl | h
  · decide
  · omega
theorem rhull_snoc {zs : List Rc} {k : Nat} {x h : Rc} (hx : zs[k]? = some x) (hh : (zs.take k).foldl hullRStep ⟨0, 0, 0, 0⟩ = h) : (zs.take (k + 1)).foldl hullRStep ⟨0, 0, 0, 0⟩ = hullRStep h x := by
  rw [take_snoc hx, List.foldl_append, hh]; rfl
theorem rhull_all {zs : List Rc} {k : Nat} {h : Rc} (hk : zs.length ≤ k) (hh : (zs.take k).foldl hullRStep ⟨0, 0, 0, 0⟩ = h) : hullR zs = h := by
  rw [List.take_of_length_le hk] at hh; exact hh
set_option maxRecDepth 100000 in
set_option maxHeartbeats 2000000 in
theorem recthull_any (A : Option Addr) (n c : Nat) (zs : List Rc) (w0 : World) (h1 : Rows 4 encR w0 A n zs) (hz : ∀ z ∈ zs, NearR z) (p q u v : Int) (hv : hullR zs = ⟨p, q, u, v⟩) :
    Calls Try.prog 27 #[.slice A n c] w0 fun e w' => e = .returned (.agg #[.int .i64 p, .int .i64 q, .int .i64 u, .int .i64 v]) ∧ Below w0.heap.size w0 w' := by
  have hn := h1.2.1
  have HL := Lib.hid h1.1
  have H1 := Lib.hid h1
  have HZ := Lib.hid hz
  have HV := Lib.hid hv
  clear h1 hz hv
  go_enter Try.func27, Try.ntmps27
  go_wp2_with fail
  go_loopw [8] (fun i wr => ∃ (k : Nat) (x y s t : Int), k ≤ n ∧ i = .int .i64 k ∧ (zs.take k).foldl hullRStep ⟨0, 0, 0, 0⟩ = ⟨x, y, s, t⟩ ∧ Box wr w0.heap.size [.int .i64 0, .int .i64 0, .int .i64 0, .int .i64 0] ∧ Box wr (w0.heap.size + 1) [.int .i64 x, .int .i64 y, .int .i64 s, .int .i64 t] ∧ Below w0.heap.size w0 wr) (fun i _ => n - (intOf i).toNat)
  case atStart => exact ⟨0, 0, 0, 0, 0, by omega, rfl, rfl, (Box.new4 _ _ _ _ _ _).alloc _, Box.new4' _ _ _ _ _ _ _ (by simp), by go_grown⟩
  case round =>
    obtain ⟨k, x, y, s, t, hk, rfl, hh, hR, hB, hb⟩ := hrel
    have HH := Lib.hid hh
    have HB := Lib.hid hb
    have hok := hullR_ok (zs.take k) ⟨0, 0, 0, 0⟩ (.inl rfl) (fun r hr => HZ.out r (List.mem_of_mem_take hr))
    rw [hh] at hok
    have HOk := Lib.hid hok
    clear hh hb hok
    by_cases hlt : k < n
    · obtain ⟨bl, off, p', q', u', v', rfl, hbl, hx, HC⟩ := rects_get H1.out hlt
      have HX := Lib.hid hx
      have HNr := Lib.hid (HZ.out _ (List.mem_of_getElem? hx))
      clear hx
      obtain ⟨⟨c0, c1, c2, c3⟩, c4⟩ := HC.out wr HB.out
      obtain ⟨⟨r0, r1, r2, r3⟩, ⟨f0, f1, f2, f3⟩, r4⟩ := hR.of4
      obtain ⟨⟨b0, b1, b2, b3⟩, ⟨g0, g1, g2, g3⟩, b4⟩ := hB.of4
      by_cases hq : noneR ⟨p', q', u', v'⟩
      · have HS := Lib.hid (show hullRStep ⟨x, y, s, t⟩ ⟨p', q', u', v'⟩ = ⟨x, y, s, t⟩ from if_pos hq)
        have HT := Lib.hid (tidyR_none hq)
        clear hq
        go_wp2_with fail
        refine (rtidy_to HT.out _).mono ?_
        rintro e w2 ⟨rfl, hb2⟩
        have hR2 := (hR.alloc (.cells #[.int .i64 p', .int .i64 q', .int .i64 u', .int .i64 v'] 41)).below hb2
        have hB2 := (hB.alloc (.cells #[.int .i64 p', .int .i64 q', .int .i64 u', .int .i64 v'] 41)).below hb2
        have hS2 := (Box.new4 wr (.int .i64 p') (.int .i64 q') (.int .i64 u') (.int .i64 v') 41).below hb2
        have HB2 := Lib.hid (below_then (HB.out.alloc (by omega) _) hb2)
        have hSz : w0.heap.size + 1 < wr.heap.size := b4
        clear hb2 hR hB HB r0 r1 r2 r3 r4 b0 b1 b2 b3 b4 c0 c1 c2 c3 c4 f0 f1 f2 f3 g0 g1 g2 g3
        obtain ⟨⟨s0, s1, s2, s3⟩, ⟨f0, f1, f2, f3⟩, s4⟩ := hS2.of4
        go_wp2_with fail
        go_roundw
        case rel => exact ⟨k + 1, x, y, s, t, by omega, by go_num, by rw [rhull_snoc HX.out HH.out, HS.out], hR2.set4_other (by omega) _ _ _ _, hB2.set4_other (by omega) _ _ _ _, below_set4 HB2.out (by omega) _ _ _ _⟩
        case measure => simp [intOf]; omega
      · have hu0 : (u' == 0) = false := by unfold noneR at hq; simp at hq ⊢; omega
        have HT := Lib.hid (tidyR_some hq)
        have hst := hull_by_spans HOk.out hq
        rcases e1 : acrossR ⟨x, y, s, t⟩ with ⟨a1, d1⟩
        rcases e2 : downR ⟨x, y, s, t⟩ with ⟨a2, d2⟩
        rcases e3 : acrossR ⟨p', q', u', v'⟩ with ⟨a3, d3⟩
        rcases e4 : downR ⟨p', q', u', v'⟩ with ⟨a4, d4⟩
        have hfh := fit_hull HOk.out
        have hfr := fit_near HNr.out
        have n1 : Near a1 ∧ Near d1 := by have := hfh.1; injection e1 with k1 k2; rw [← k1, ← k2]; exact this
        have n2 : Near a2 ∧ Near d2 := by have := hfh.2; injection e2 with k1 k2; rw [← k1, ← k2]; exact this
        have n3 : Near a3 ∧ Near d3 := by have := hfr.1; injection e3 with k1 k2; rw [← k1, ← k2]; exact this
        have n4 : Near a4 ∧ Near d4 := by have := hfr.2; injection e4 with k1 k2; rw [← k1, ← k2]; exact this
        have m1 := hull2_near (x := (a1, d1)) (y := (a3, d3)) n1 n3
        have m2 := hull2_near (x := (a2, d2)) (y := (a4, d4)) n2 n4
        rw [e1, e2, e3, e4] at hst
        rcases e5 : hullL [(a1, d1), (a3, d3)] with ⟨a5, d5⟩
        rcases e6 : hullL [(a2, d2), (a4, d4)] with ⟨a6, d6⟩
        rw [e5] at m1 hst
        rw [e6] at m2 hst
        rcases e7 : hullRStep ⟨x, y, s, t⟩ ⟨p', q', u', v'⟩ with ⟨x1, y1, w1, h1⟩
        rw [e7] at hst
        have HS := Lib.hid e7
        have HFH := Lib.hid hfh
        have HFR := Lib.hid hfr
        have E1 := Lib.hid e1
        have E2 := Lib.hid e2
        have E3 := Lib.hid e3
        have E4 := Lib.hid e4
        have E5 := Lib.hid e5
        have E6 := Lib.hid e6
        have M1 := Lib.hid m1
        have M2 := Lib.hid m2
        have HSt := Lib.hid hst
        clear hq hst hfh hfr n1 n2 n3 n4 m1 m2 e1 e2 e3 e4 e5 e6 e7
        go_wp2_with fail
        refine (rtidy_to HT.out _).mono ?_
        rintro e w2 ⟨rfl, hb2⟩
        have hR2 := (hR.alloc (.cells #[.int .i64 p', .int .i64 q', .int .i64 u', .int .i64 v'] 41)).below hb2
        have hB2 := (hB.alloc (.cells #[.int .i64 p', .int .i64 q', .int .i64 u', .int .i64 v'] 41)).below hb2
        have hS2 := (Box.new4 wr (.int .i64 p') (.int .i64 q') (.int .i64 u') (.int .i64 v') 41).below hb2
        have HB2 := Lib.hid (below_then (HB.out.alloc (by omega) _) hb2)
        have hSz : w0.heap.size + 1 < wr.heap.size := b4
        clear hb2 hR hB HB r0 r1 r2 r3 r4 b0 b1 b2 b3 b4 c0 c1 c2 c3 c4 f0 f1 f2 f3 g0 g1 g2 g3
        obtain ⟨⟨s0, s1, s2, s3⟩, ⟨f0, f1, f2, f3⟩, s4⟩ := hS2.of4
        go_wp2_with fail
        have hR3 := hR2.set4_other (m := wr.heap.size) (by omega) (.int .i64 p') (.int .i64 q') (.int .i64 u') (.int .i64 v')
        have hB3 := hB2.set4_other (m := wr.heap.size) (by omega) (.int .i64 p') (.int .i64 q') (.int .i64 u') (.int .i64 v')
        have hS3 := hS2.set4 (.int .i64 p') (.int .i64 q') (.int .i64 u') (.int .i64 v')
        have HB3 := below_set4 (m := wr.heap.size) HB2.out (by omega) (.int .i64 p') (.int .i64 q') (.int .i64 u') (.int .i64 v')
        unfold set4 at hR3 hB3 hS3 HB3
        clear hR2 hB2 hS2 HB2 s0 s1 s2 s3 s4 f0 f1 f2 f3
        generalize (((w2.setCell ⟨wr.heap.size, 0, none⟩ (.int .i64 p')).setCell ⟨wr.heap.size, 1, none⟩ (.int .i64 q')).setCell ⟨wr.heap.size, 2, none⟩ (.int .i64 u')).setCell ⟨wr.heap.size, 3, none⟩ (.int .i64 v') = W at hR3 hB3 hS3 HB3 ⊢
        replace HB3 := Lib.hid HB3
        obtain ⟨k0, k1, k2, k3⟩ := On.of4 hB3
        obtain ⟨l0, l1, l2, l3⟩ := On.of4 hS3
        refine wp_region_held_tail 13 (S := fun W' => On W W') (by kernel_rfl) (by kernel_rfl) rfl (On.refl _).drew (fun h0 => ?_)
        simp only [headOf, List.take_succ_cons, List.take_zero, List.getElem_toArray, List.getElem_cons_succ, List.getElem_cons_zero]
        refine wpAnyH_take (i := 0) (v := ?_) rfl (by kernel_rfl) (by kernel_rfl) (by kernel_rfl) (fun _ _ _ h => h) (Or.inl ⟨by rfl, ?_⟩) h0 ?_
        rotate_left
        · intro w hSw; (try dsimp only at hSw); go_simp; with_reducible rfl
        try simp only [Act.put, List.setIfInBounds_toArray, List.set_cons_zero, List.set_cons_succ]
        refine wpAnyH_take (i := 2) (v := ?_) rfl (by kernel_rfl) (by kernel_rfl) (by kernel_rfl) (fun _ _ _ h => h) (Or.inl ⟨by rfl, ?_⟩) h0 ?_
        rotate_left
        · intro w hSw; (try dsimp only at hSw); go_simp; with_reducible rfl
        try simp only [Act.put, List.setIfInBounds_toArray, List.set_cons_zero, List.set_cons_succ]
        refine wpAnyH_take (i := 6) (v := ?_) rfl (by kernel_rfl) (by kernel_rfl) (by kernel_rfl) (fun _ _ _ h => h) (Or.inl ⟨by rfl, ?_⟩) h0 ?_
        rotate_left
        · intro w hSw; (try dsimp only at hSw); go_simp; with_reducible rfl
        try simp only [Act.put, List.setIfInBounds_toArray, List.set_cons_zero, List.set_cons_succ]
        refine wpAnyH_take (i := 8) (v := ?_) rfl (by kernel_rfl) (by kernel_rfl) (by kernel_rfl) (fun _ _ _ h => h) (Or.inl ⟨by rfl, ?_⟩) h0 ?_
        rotate_left
        · intro w hSw; (try dsimp only at hSw); go_simp; with_reducible rfl
        try simp only [Act.put, List.setIfInBounds_toArray, List.set_cons_zero, List.set_cons_succ]
        refine wpAnyH_ready (rs := [1]) (by kernel_rfl) (by simp) ?_
        refine AllReadyH.cons rfl (fun K hK => ?_) AllReadyH.nil
        go_simp
        refine (across_to HFH.out E1.out _).mono ?_
        rintro e v1 ⟨rfl, hb⟩
        refine hK.out _ _ (On.step h0 hb) (fun h1 => ?_)
        clear hK K hb
        try simp only [Act.put, List.setIfInBounds_toArray, List.set_cons_zero, List.set_cons_succ]
        refine wpAnyH_ready (rs := [3]) (by kernel_rfl) (by simp) ?_
        refine AllReadyH.cons rfl (fun K hK => ?_) AllReadyH.nil
        go_simp
        refine (across_to HFR.out E3.out _).mono ?_
        rintro e v2 ⟨rfl, hb⟩
        refine hK.out _ _ (On.step h1 hb) (fun h2 => ?_)
        clear hK K hb
        try simp only [Act.put, List.setIfInBounds_toArray, List.set_cons_zero, List.set_cons_succ]
        refine wpAnyH_ready (rs := [4]) (by kernel_rfl) (by simp) ?_
        refine AllReadyH.cons rfl (fun K hK => ?_) AllReadyH.nil
        go_simp
        refine hK.out _ _ (On.alloc h2 _) (fun h3 => ?_)
        clear hK K
        try simp only [Act.put, List.setIfInBounds_toArray, List.set_cons_zero, List.set_cons_succ]
        refine wpAnyH_ready (rs := [5]) (by kernel_rfl) (by simp) ?_
        refine AllReadyH.cons rfl (fun K hK => ?_) AllReadyH.nil
        go_simp
        refine (hull_to E5.out (rows_lit _ [(a1, d1), (a3, d3)] _ _ _ (by simp) _ (by simp [encS]) rfl (by simp))).mono ?_
        rintro e v4 ⟨rfl, hb⟩
        refine hK.out _ _ (On.step h3 hb) (fun h4 => ?_)
        clear hK K hb
        try simp only [Act.put, List.setIfInBounds_toArray, List.set_cons_zero, List.set_cons_succ]
        refine wpAnyH_ready (rs := [7]) (by kernel_rfl) (by simp) ?_
        refine AllReadyH.cons rfl (fun K hK => ?_) AllReadyH.nil
        go_simp
        refine (down_to HFH.out E2.out _).mono ?_
        rintro e v5 ⟨rfl, hb⟩
        refine hK.out _ _ (On.step h4 hb) (fun h5 => ?_)
        clear hK K hb
        try simp only [Act.put, List.setIfInBounds_toArray, List.set_cons_zero, List.set_cons_succ]
        refine wpAnyH_ready (rs := [9]) (by kernel_rfl) (by simp) ?_
        refine AllReadyH.cons rfl (fun K hK => ?_) AllReadyH.nil
        go_simp
        refine (down_to HFR.out E4.out _).mono ?_
        rintro e v6 ⟨rfl, hb⟩
        refine hK.out _ _ (On.step h5 hb) (fun h6 => ?_)
        clear hK K hb
        try simp only [Act.put, List.setIfInBounds_toArray, List.set_cons_zero, List.set_cons_succ]
        refine wpAnyH_ready (rs := [10]) (by kernel_rfl) (by simp) ?_
        refine AllReadyH.cons rfl (fun K hK => ?_) AllReadyH.nil
        go_simp
        refine hK.out _ _ (On.alloc h6 _) (fun h7 => ?_)
        clear hK K
        try simp only [Act.put, List.setIfInBounds_toArray, List.set_cons_zero, List.set_cons_succ]
        refine wpAnyH_ready (rs := [11]) (by kernel_rfl) (by simp) ?_
        refine AllReadyH.cons rfl (fun K hK => ?_) AllReadyH.nil
        go_simp
        refine (hull_to E6.out (rows_lit _ [(a2, d2), (a4, d4)] _ _ _ (by simp) _ (by simp [encS]) rfl (by simp))).mono ?_
        rintro e v8 ⟨rfl, hb⟩
        refine hK.out _ _ (On.step h7 hb) (fun h8 => ?_)
        clear hK K hb
        try simp only [Act.put, List.setIfInBounds_toArray, List.set_cons_zero, List.set_cons_succ]
        refine wpAnyH_ready (rs := [12]) (by kernel_rfl) (by simp) ?_
        refine AllReadyH.cons rfl (fun K hK => ?_) AllReadyH.nil
        go_simp
        refine (rectof_to M1.out.1 M1.out.2 M2.out.1 M2.out.2 HSt.out _).mono ?_
        rintro e v9 ⟨rfl, hb⟩
        refine hK.out _ _ (On.step h8 hb) (fun h9 => ?_)
        clear hK K hb
        try simp only [Act.put, List.setIfInBounds_toArray, List.set_cons_zero, List.set_cons_succ]
        refine wpAnyH_done (by kernel_rfl) ?_ _
        show wpList _ _ _ _ _ _
        have hR4 := On.box hR3 _ h9
        have hB4 := On.box hB3 _ h9
        have HB4 := Lib.hid (below_then HB3.out h9)
        clear h0 h1 h2 h3 h4 h5 h6 h7 h8 h9 k0 k1 k2 k3 l0 l1 l2 l3 hR3 hB3 hS3
        obtain ⟨⟨b0, b1, b2, b3⟩, ⟨g0, g1, g2, g3⟩, b4⟩ := hB4.of4
        go_wp2_with fail
        go_roundw
        case rel => exact ⟨k + 1, x1, y1, w1, h1, by omega, by go_num, by rw [rhull_snoc HX.out HH.out, HS.out], hR4.set4_other (by omega) _ _ _ _, hB4.set4 _ _ _ _, below_set4 HB4.out (by omega) _ _ _ _⟩
        case measure => simp [intOf]; omega
    · have hv := HV.out
      rw [rhull_all (by rw [HL.out]; omega) HH.out] at hv
      injection hv with e1 e2 e3 e4
      subst e1 e2 e3 e4
      obtain ⟨⟨r0, r1, r2, r3⟩, ⟨f0, f1, f2, f3⟩, r4⟩ := hR.of4
      obtain ⟨⟨b0, b1, b2, b3⟩, ⟨g0, g1, g2, g3⟩, b4⟩ := hB.of4
      go_wp2_with fail
      refine bodyPost_ret (v := .agg #[.int .i64 x, .int .i64 y, .int .i64 s, .int .i64 t]) (by simp [results, Try.results27, go_sem, r0, r1, r2, r3]) rfl ⟨rfl, ?_⟩
      exact below_set4 HB.out (by omega) _ _ _ _
end Go.Proofs.Ytkbpiekmphcdnaa
