import Derived.Test.YtipmdhfinlkceaaJW12
import Derived.Test.YtipmdhfinlkceaaJW03
import Derived.Test.YtipmdhfinlkceaaJW13
import Derived.Test.YtipmdhfinlkceaaJW01
import Derived.Test.YtipmdhfinlkceaaJW15
import Derived.Test.YtipmdhfinlkceaaJW08
import Derived.Lib.MinMax
import Derived.Test.YtipmdhfinlkceaaJW09
import Derived.Maps.Range
import Derived.Test.YtipmdhfinlkceaaJW00
/- LinesRef3, PlacePut, ValidRefIs, ValidRefPlus, FlowSt, FlowGal, FlowRefM, FlowEx. -/
set_option linter.unusedVariables false
set_option linter.unusedSimpArgs false
namespace Go.Proofs.Ytipmdhfinlkceaa
open Go.RowKit
def LnsOwn (w : World) (l : List Ln) (e : Ending) (w' : World) : Prop := ∃ A n c, e = .returned (.slice A n c) ∧ n = l.length ∧ w'.ownsRow w.heap.size 92 5 (.slice A n c) n (l.flatMap encLn) ∧ Below w.heap.size w w'
theorem set_info : (Try.prog.info? 92).map (fun i => (i.zero, i.size, i.bytes)) = some (some (.agg #[.int .i64 0, .int .i64 0, .int .i64 0, .int .i64 0, .int .i64 0]), 5, 40) := by kernel_rfl
theorem cells_ln (w : World) (t : TypeId) (x : Ln) (k : Nat) (hk : k = w.heap.size) : Cells (w.alloc (.cells #[.int .i64 x.from_, .int .i64 x.to_, .int .i64 x.x, .int .i64 x.y, .int .i64 x.w] t)) (some ⟨k, 0, none⟩) 1 5 (encLn x) := by
  subst hk
  exact ⟨rfl, by decide, fun _ => ⟨w.heap.size, 0, rfl, by simp, fun j u hu => by
    have := (Box.new w (encLn x) t).2.2 j u hu
    rw [Nat.zero_add]; exact this⟩⟩
theorem flat_snoc (l : List Ln) (x : Ln) : (l ++ [x]).flatMap encLn = l.flatMap encLn ++ encLn x := by simp
theorem mul_one_up (k : Nat) (h : Int) : ((k + 1 : Nat) : Int) * h = (k : Int) * h + h := by push_cast; rw [Int.add_mul, Int.one_mul]
theorem mul_most {k : Nat} {h : Int} (hk : k ≤ 1000) (h0 : 0 ≤ h) (h1 : h ≤ 1099511627776) : 0 ≤ (k : Int) * h ∧ (k : Int) * h ≤ 1099511627776000 := by
  refine ⟨Int.mul_nonneg (by omega) h0, ?_⟩
  have := Int.mul_le_mul (show (k : Int) ≤ 1000 by omega) h1 h0 (by omega)
  omega
set_option maxHeartbeats 8000000 in
set_option maxRecDepth 100000 in
theorem rtext_to {l : List Fl} {ws : List Int} {sp h a b y M : Int} {v : List Ln} (hv : lnsL l ws sp h a b 0 y = v) (hn : ∀ f ∈ l, f.near) (hy : NearI y) (h0 : 0 ≤ h) (h1 : h ≤ 1099511627776) (hM : ∀ f ∈ l, f.y + f.h ≤ M) (hyM : y ≤ M) (hM2 : M ≤ 562949953421312) (ha : NearI a) (hb : NearI b) (hws : Near9 ws sp) {A A2 : Option Addr} {n c m c2 : Nat} (hm : m ≤ 1000) {w : World} (hA : Rows 7 encFl w A n l) (hW : Ints w A2 m ws) :
    Calls Try.prog 40 #[.slice A n c, .slice A2 m c2, .int .i64 sp, .int .i64 h, .int .i64 y, .agg #[.int .i64 a, .int .i64 b]] w (LnsOwn w v) := by
  obtain ⟨i0, hi0, hy0, hy1, hy2⟩ := info_parts set_info
  have HH := Lib.hid (show NearI h by unfold NearI farB; omega)
  have HL := Lib.hid hW.1
  have HYL := Lib.hid (show -1125899906842624 ≤ y from hy.1)
  have HLN := Lib.hid (show ∀ (i : Nat) (y1 : Int), i < ws.length → NearY y1 → ∀ W', On w W' → Calls Try.prog 49 #[.slice A n c, .slice A2 m c2, .int .i64 sp, .int .i64 h, .int .i64 (i : Int), .int .i64 y1, .agg #[.int .i64 a, .int .i64 b]] W' fun e w' => e = .returned (.agg #[.int .i64 (lineL l ws sp h a b i y1).from_, .int .i64 (lineL l ws sp h a b i y1).to_, .int .i64 (lineL l ws sp h a b i y1).x, .int .i64 (lineL l ws sp h a b i y1).y, .int .i64 (lineL l ws sp h a b i y1).w]) ∧ Below W'.heap.size W' w' from
    fun i y1 hi hy1 W' ho => rline_to rfl hi hn hy1 HH.out ha hb hws hm (hA.on ho) (hW.below (B := w.heap.size) ho rfl))
  have HV := Lib.hid hv
  have HMM := Lib.hid hM
  have H0 := Lib.hid h0
  have H1 := Lib.hid h1
  have HYM := Lib.hid hyM
  have HM2 := Lib.hid hM2
  clear hv hn hy h0 h1 hM hyM hM2 ha hb hws hA hW HH
  go_enter Try.func40, Try.ntmps40
  go_wp2_with fail
  generalize hW : World.alloc w _ = W
  have HI0 := Lib.hid (show Box W w.heap.size [.int .i64 a, .int .i64 b] by rw [← hW]; exact Box.new2 _ _ _ _)
  have HB0 := Lib.hid (show Below w.heap.size w W by rw [← hW]; go_grown)
  clear hW
  go_loopw [4, 13, 14, 15] (fun yv o i x wr => ∃ (j m3 c1 : Nat) (A1 : Option Addr) (dn : List Ln) (y1 : Int), yv = .int .i64 y1 ∧ o = .slice A1 m3 c1 ∧ i = .int .i64 (j : Int) ∧ j ≤ m ∧ m3 ≤ j ∧ Hid (dn.length = m3) ∧ Hid (dn ++ lnsL l ws sp h a b j y1 = v) ∧ Hid (-1125899906842624 ≤ y1 ∧ y1 ≤ M + (m3 : Int) * h) ∧ Hid (wr.ownsRow (w.heap.size + 1) 92 5 (.slice A1 m3 c1) m3 (dn.flatMap encLn)) ∧ Hid (Box wr w.heap.size [.int .i64 a, .int .i64 b]) ∧ Hid (Below w.heap.size w wr)) (fun _ _ i _ _ => m - (intOf i).toNat)
  case atStart => exact ⟨0, 0, 0, none, [], y, rfl, rfl, rfl, Nat.zero_le _, Nat.le_refl _, Lib.hid rfl, HV, Lib.hid ⟨HYL.out, by have := HYM.out; simp; omega⟩, Lib.hid (owns_nil _ _ _ _), HI0, HB0⟩
  case round =>
    obtain ⟨j, m3, c1, A1, dn, y1, rfl, rfl, rfl, hjm, hmj, HD, HT, HY, HO, HI, HB⟩ := hrel
    by_cases hlt : j < m
    · have hlt2 : (j : Int) < (m : Int) := by omega
      have HJ := Lib.hid (show j < ws.length by have := HL.out; omega)
      have hmm := mul_most (k := m3) (h := h) (by omega) H0.out H1.out
      have HNY := Lib.hid (show NearY y1 by have := HY.out; have := HM2.out; unfold NearY farB; omega)
      obtain ⟨x, hx⟩ : ∃ x, lineL l ws sp h a b j y1 = x := ⟨_, rfl⟩
      have hln := HLN.out j y1 HJ.out HNY.out wr HB.out
      rw [hx] at hln
      obtain ⟨t, ht, ht1, ht2⟩ := lineL_to l ws sp h a b y1 HJ.out
      rw [hx] at ht
      have HT2 := Lib.hid (show (dn ++ [x]) ++ lnsL l ws sp h a b t (x.y + h) = v by
        rw [← HT.out, lnsL_step HJ.out, hx, ht, Int.toNat_natCast, List.append_assoc]; rfl)
      have hxy : x.y = seekE l h (wordI ws j) a b y1 := by rw [← hx]; rfl
      have hge : y1 ≤ x.y := by rw [hxy]; exact seekE_ge _
      have hle : x.y ≤ M + (m3 : Int) * h := by
        rw [hxy]
        exact seekE_le (fun f hf => by have := HMM.out f hf; omega) HY.out.2
      have HXY := Lib.hid (show -1125899906842624 ≤ x.y + h ∧ x.y + h ≤ M + ((m3 + 1 : Nat) : Int) * h by rw [mul_one_up]; have := HY.out; have := H0.out; omega)
      have hw : IntKind.i64.wrap (x.y + h) = x.y + h := IntWalk.i64_in _ (by have := HY.out; have := H0.out; have := H1.out; have := HM2.out; omega)
      have HLN1 := Lib.hid hln
      have htm : t ≤ m := by have := HL.out; omega
      have htj : j < t := ht1
      obtain ⟨x0, x1, x2, x3, x4⟩ := x
      simp only at ht hw HXY HT2 HLN1
      subst ht
      clear hx hln ht1 ht2 hxy hge hle hmm
      obtain ⟨p0, p1, _, _, p4⟩ := HI.out.of2
      go_wp2_with fail
      refine HLN1.out.mono ?_
      rintro e w1 ⟨rfl, hb⟩
      have HO1 := Lib.hid (owns_below HO.out hb)
      have HI1 := Lib.hid (HI.out.below hb)
      have HB1 := Lib.hid (below_then HB.out hb)
      clear hb p0 p1 p4 HO HI HB HLN1
      go_wp2_with ((with_reducible refine stop_dst 31 ?_ ?_); exact rfl)
      refine Stop.intro ?_
      generalize hZ : w1.alloc (.cells #[.int .i64 x0, .int .i64 (t : Int), .int .i64 x2, .int .i64 x3, .int .i64 x4] 92) = Z
      have hal : Below w1.heap.size w1 Z := by rw [← hZ]; exact (Below.refl _ _).alloc (Nat.le_refl _) _
      have HX := Lib.hid (show Box Z w1.heap.size (encLn ⟨x0, (t : Int), x2, x3, x4⟩) by rw [← hZ]; exact Box.new w1 (encLn ⟨x0, (t : Int), x2, x3, x4⟩) _)
      have HO2 := Lib.hid (owns_below (owns_below HO1.out hal) ((Below.refl Z.heap.size Z).alloc (Nat.le_refl _) (.cells #[.int .i64 x0, .int .i64 (t : Int), .int .i64 x2, .int .i64 x3, .int .i64 x4] 92)))
      have HI2 := Lib.hid (HI1.out.below hal)
      have HB2 := Lib.hid (below_then HB1.out hal)
      have HLT := Lib.hid (show ∀ r, (Value.slice A1 m3 c1).ownBlock = some r → r < w1.heap.size from owns_block_lt HO1.out)
      have hz1 := HI2.out.1
      have hzs : w1.heap.size + 1 = Z.heap.size := by rw [← hZ]; simp
      clear hZ hal HO1 HI1 HB1
      refine wpList_append_cells _ rfl (.tmp 28) (.tmp 30) _ rfl (w.heap.size + 1) 92 i0 (.agg #[.int .i64 0, .int .i64 0, .int .i64 0, .int .i64 0, .int .i64 0]) 5 40 Try.underlying89 hi0 hy0 hy1 hy2 rfl (by decide) (.slice A1 m3 c1) m3 _ rfl HO2.out _ 1 1 _ rfl (cells_ln Z 92 ⟨x0, (t : Int), x2, x3, x4⟩ (w1.heap.size + 1) hzs) (encLn_one _) (by unfold maxLen; omega) (by omega) (by simp; omega) ?_
      intro A5 c5 w5 hown5 hg5
      have hbl := owns_block HO2.out
      have HX5 := Lib.hid ((HX.out.alloc (.cells #[.int .i64 x0, .int .i64 (t : Int), .int .i64 x2, .int .i64 x3, .int .i64 x4] 92)).grown hg5 (fun r e => by have := HLT.out r e; omega))
      have HI5 := Lib.hid ((HI2.out.alloc (.cells #[.int .i64 x0, .int .i64 (t : Int), .int .i64 x2, .int .i64 x3, .int .i64 x4] 92)).grown hg5 (fun r e => by have := hbl r e; omega))
      have HB5 := Lib.hid ((HB2.out.alloc (by have := HB2.out.size; omega) (.cells #[.int .i64 x0, .int .i64 (t : Int), .int .i64 x2, .int .i64 x3, .int .i64 x4] 92)).grown hg5 (by have := HB2.out.size; simp; omega) (fun r e => by have := hbl r e; omega))
      have HO5 := Lib.hid (show w5.ownsRow (w.heap.size + 1) 92 5 (.slice A5 (m3 + 1) c5) (m3 + 1) ((dn ++ [(⟨x0, (t : Int), x2, x3, x4⟩ : Ln)]).flatMap encLn) by rw [flat_snoc]; exact hown5)
      have HD5 := Lib.hid (show (dn ++ [(⟨x0, (t : Int), x2, x3, x4⟩ : Ln)]).length = m3 + 1 by rw [List.length_append, HD.out]; rfl)
      clear hown5 hg5 hbl HX HO2 HI2 HB2 HLT hz1 hzs
      obtain ⟨⟨k0, k1, k2, k3, k4⟩, _⟩ := HX5.out.of5l
      go_wp2_with fail
      go_roundw
      case rel => exact ⟨t, m3 + 1, c5, A5, dn ++ [(⟨x0, (t : Int), x2, x3, x4⟩ : Ln)], x3 + h, rfl, rfl, rfl, htm, by omega, HD5, HT2, HXY, HO5, HI5, HB5⟩
      case measure => simp [intOf] <;> omega
    · have hge : (m : Int) ≤ (j : Int) := by omega
      have HE := Lib.hid (show dn = v by rw [← HT.out, lnsL_end (by have := HL.out; omega), List.append_nil])
      have HD2 := Lib.hid HD.out
      go_wp2_with fail
      go_ret
      exact ⟨A1, m3, c1, rfl, by rw [← HE.out]; exact HD.out.symm, by rw [← HE.out]; exact owns_mono13 HO.out (by omega), HB.out⟩
def FlsNew (w : World) (l : List Fl) (e : Ending) (w' : World) : Prop := ∃ A n c, e = .returned (.slice A n c) ∧ n = l.length ∧ Rows 7 encFl w' A n l ∧ Below w.heap.size w w' ∧ ∀ q, A = some q → w.heap.size ≤ q.block
def FlsOwn (w : World) (l : List Fl) (e : Ending) (w' : World) : Prop := ∃ A n c, e = .returned (.slice A n c) ∧ n = l.length ∧ w'.ownsRow w.heap.size 70 7 (.slice A n c) n (l.flatMap encFl) ∧ Below w.heap.size w w'
theorem owns_mono14 {w : World} {base b2 : Nat} {e : TypeId} {size : Nat} {v : Value} {n : Nat} {xs : List Value} (h : w.ownsRow base e size v n xs) (hb : b2 ≤ base) : w.ownsRow b2 e size v n xs := by
  refine ⟨h.1, ?_⟩
  rcases h.2 with h2 | ⟨g, cap, cur, h1, h2, h3⟩
  · exact .inl h2
  · exact .inr ⟨g, cap, cur, h1, by omega, h3⟩
theorem FlsOwn.new {w w' : World} {l : List Fl} {e : Ending} (h : FlsOwn w l e w') : FlsNew w l e w' := by
  obtain ⟨A, n, c, h1, h2, h3, h4⟩ := h
  exact ⟨A, n, c, h1, h2, ownsRow_rows encFl_len (by decide) h3, h4, fun q hq => by subst hq; exact owns_block h3 q.block rfl⟩
theorem fl_info' : (Try.prog.info? 70).map (fun i => (i.zero, i.size, i.bytes)) = some (some (.agg #[.int .i64 0, .int .i64 0, .int .i64 0, .int .i64 0, .int .i64 0, .int .i64 0, .int .i64 0]), 7, 56) := by kernel_rfl
theorem fls_one' (l : List Fl) : ∀ u ∈ l.flatMap encFl, u.oneCell' = true := by
  intro u hu
  obtain ⟨f, _, hf⟩ := List.mem_flatMap.1 hu
  exact encFl_one f u hf
theorem box_grown {w w' : World} {b : Nat} {row : Option Nat} {vs : List Value} (h : Box w b vs) (hg : w.grownBy w' row) (hne : some b ≠ row) : Box w' b vs := by
  have hb : w'.heap[b]? = w.heap[b]? := hg.block b h.1 hne
  refine ⟨Nat.lt_of_lt_of_le h.1 hg.size, fun o => ?_, fun j v hv => hg.cell (h.2.2 j v hv) hne⟩
  have := h.2.1 o
  unfold World.frozen? at this ⊢
  simp only [hb]
  exact this
theorem cells_box7 {w : World} {b : Nat} {f : Fl} (h : Box w b (encFl f)) : Cells w (some ⟨b, 0, none⟩) 1 7 (encFl f) :=
  ⟨rfl, by decide, fun _ => ⟨b, 0, rfl, h.1, fun j y hy => by rw [Nat.zero_add]; exact h.2.2 j y hy⟩⟩
theorem cells7 (w : World) (f : Fl) (t : TypeId) : Cells (w.alloc (.cells #[.int .i64 f.node, .int .i64 f.side, .int .i64 f.anchor, .int .i64 f.x, .int .i64 f.y, .int .i64 f.w, .int .i64 f.h] t)) (some ⟨w.heap.size, 0, none⟩) 1 7 (encFl f) := cells_box7 (box7 w f t)
set_option maxHeartbeats 16000000 in
set_option maxRecDepth 100000 in
theorem rput_own {l : List Fl} {f0 f1 f2 f3 f4 f5 f6 y a b x t : Int} (hx : spotX l ⟨f0, f1, f2, f3, f4, f5, f6⟩ y a b = x) (ht : spotY l ⟨f0, f1, f2, f3, f4, f5, f6⟩ y a b = t) (hn : ∀ g ∈ l, g.near) (hf : (⟨f0, f1, f2, f3, f4, f5, f6⟩ : Fl).near) (hy : NearI y) (ha : NearI a) (hb : NearI b) {A : Option Addr} {n c : Nat} (hn2 : n ≤ 1000) {w : World} (h : Rows 7 encFl w A n l) :
    Calls Try.prog 42 #[.slice A n c, .agg #[.int .i64 f0, .int .i64 f1, .int .i64 f2, .int .i64 f3, .int .i64 f4, .int .i64 f5, .int .i64 f6], .int .i64 y, .agg #[.int .i64 a, .int .i64 b]] w (FlsOwn w (l ++ [⟨f0, f1, f2, x, t, f5, f6⟩])) := by
  have HA := Lib.hid h
  have HL := Lib.hid h.1
  have HSP := Lib.hid (fun (v : World) (hs : Rows 7 encFl v A n l) => rspot_to (c := c) hx ht hn hf hy ha hb hn2 hs)
  obtain ⟨i0, hi0, hz0, hz1, hz2⟩ := info_parts fl_info'
  have HD0 := Lib.hid (show Box ((w.alloc (.cells #[.int .i64 f0, .int .i64 f1, .int .i64 f2, .int .i64 f3, .int .i64 f4, .int .i64 f5, .int .i64 f6] 70)).alloc (.cells #[.int .i64 a, .int .i64 b] 84)) w.heap.size (encFl ⟨f0, f1, f2, f3, f4, f5, f6⟩) from (box7 w ⟨f0, f1, f2, f3, f4, f5, f6⟩ _).alloc _)
  clear h hx ht hn hf hy ha hb
  go_enter Try.func42, Try.ntmps42
  go_wp2_with fail
  refine (HSP.out _ (HA.out.below (show Below w.heap.size w _ by go_grown))).mono ?_
  rintro e w3 ⟨rfl, hb⟩
  have HB3 := Lib.hid (below_then (show Below w.heap.size w _ by go_grown) hb)
  have HD3 := Lib.hid (HD0.out.below hb)
  clear hb HD0
  obtain ⟨⟨p0, p1, p2, p3, p4, p5, p6⟩, hBl⟩ := HD3.out.of7
  have p7 := HD3.out.2.1
  go_wp2_with fail
  clear p0 p1 p2 p3 p4 p5 p6 p7
  generalize hW : (w3.setCell ⟨w.heap.size, 3, none⟩ (.int .i64 x)).setCell ⟨w.heap.size, 4, none⟩ (.int .i64 t) = W
  have HB := Lib.hid (show Below w.heap.size w W by rw [← hW]; exact (HB3.out.setCell (Nat.le_refl _) _).setCell (Nat.le_refl _) _)
  have HD := Lib.hid (show Box W w.heap.size (encFl ⟨f0, f1, f2, x, t, f5, f6⟩) by rw [← hW]; exact (HD3.out.set 3 (.int .i64 x) (by rw [encFl_len]; decide)).set 4 (.int .i64 t) (by rw [List.length_set, encFl_len]; decide))
  clear hW
  obtain ⟨⟨p0, p1, p2, p3, p4, p5, p6⟩, hBl2⟩ := HD.out.of7
  simp only at p0 p1 p2 p3 p4 p5 p6
  have k0 := On.cell p0
  have k1 := On.cell p1
  have k2 := On.cell p2
  have k3 := On.cell p3
  have k4 := On.cell p4
  have k5 := On.cell p5
  have k6 := On.cell p6
  have hC : ∀ V, On W V → Cells V A n 7 (l.flatMap encFl) := fun V hV => (HA.out.below (below_then HB.out hV)).cells encFl_len (by decide)
  clear p0 p1 p2 p3 p4 p5 p6
  refine wp_region_held_tail 6 (S := fun W' => On W W') (by kernel_rfl) (by kernel_rfl) rfl (On.refl _).drew (fun h0 => ?_)
  simp only [headOf, List.take_succ_cons, List.take_zero, List.getElem_toArray, List.getElem_cons_succ, List.getElem_cons_zero]
  refine wpAnyH_take (i := 1) (v := ?_) rfl (by kernel_rfl) (by kernel_rfl) (by kernel_rfl) (fun _ _ _ h => h) (Or.inl ⟨by rfl, ?_⟩) h0 ?_
  rotate_left
  · intro w hSw; (try dsimp only at hSw); go_simp; with_reducible rfl
  try simp only [Act.put, List.setIfInBounds_toArray, List.set_cons_zero, List.set_cons_succ]
  refine wpAnyH_take (i := 3) (v := ?_) rfl (by kernel_rfl) (by kernel_rfl) (by kernel_rfl) (fun _ _ _ h => h) (Or.inl ⟨by rfl, ?_⟩) h0 ?_
  rotate_left
  · intro w hSw; (try dsimp only at hSw); go_simp; with_reducible rfl
  try simp only [Act.put, List.setIfInBounds_toArray, List.set_cons_zero, List.set_cons_succ]
  refine wpAnyH_ready (rs := [0, 4]) (by kernel_rfl) (by simp) ?_
  refine AllReadyH.cons rfl (fun K hK => ?_) (AllReadyH.cons rfl (fun K hK => ?_) AllReadyH.nil)
  · go_simp
    refine hK.out _ _ (On.alloc h0 _) (fun h1 => ?_)
    clear hK K
    try simp only [Act.put, List.setIfInBounds_toArray, List.set_cons_zero, List.set_cons_succ]
    have hO : (W.alloc (.cells #[] 70)).drew.ownsRow W.heap.size 70 7 (.slice (some ⟨W.heap.size, 0, none⟩) 0 0) 0 [] := owns_below (World.ownsRow_made W #[] 0 (Nat.le_refl _) (by decide) rfl) (Below.refl _ _).drew
    refine wpAnyH_ready (rs := [2, 4]) (by kernel_rfl) (by simp) ?_
    refine AllReadyH.cons rfl (fun K hK => ?_) (AllReadyH.cons rfl (fun K hK => ?_) AllReadyH.nil)
    · refine step_append_cells _ rfl (.tmp 19) (.tmp 20) _ rfl W.heap.size 70 i0 (.agg #[.int .i64 0, .int .i64 0, .int .i64 0, .int .i64 0, .int .i64 0, .int .i64 0, .int .i64 0]) 7 56 Try.underlying45 hi0 hz0 hz1 hz2 rfl (by decide) _ 0 [] rfl hO A n c _ rfl (hC _ h1) (fls_one' l) (by unfold maxLen; omega) (by omega) (Below.size h1) ?_
      intro A2 c2 w2 hown2 hg2
      simp only [Nat.zero_add, List.nil_append] at hown2 ⊢
      have hb2 : On W w2 := Below.grown h1 hg2 (Below.size h1) (fun r e => by injection e with e; simp only at e; omega)
      refine hK.out _ _ hb2 (fun h2 => ?_)
      clear hK K
      try simp only [Act.put, List.setIfInBounds_toArray, List.set_cons_zero, List.set_cons_succ]
      refine wpAnyH_ready (rs := [4]) (by kernel_rfl) (by simp) ?_
      refine AllReadyH.cons rfl (fun K hK => ?_) AllReadyH.nil
      go_simp
      refine hK.out _ _ (On.alloc h2 _) (fun h4 => ?_)
      clear hK K
      try simp only [Act.put, List.setIfInBounds_toArray, List.set_cons_zero, List.set_cons_succ]
      have hO4 := owns_below hown2 ((Below.refl w2.heap.size w2).alloc (Nat.le_refl _) (.cells #[.int .i64 f0, .int .i64 f1, .int .i64 f2, .int .i64 x, .int .i64 t, .int .i64 f5, .int .i64 f6] 70))
      refine wpAnyH_ready (rs := [5]) (by kernel_rfl) (by simp) ?_
      refine AllReadyH.cons rfl (fun K hK => ?_) AllReadyH.nil
      refine step_append_cells _ rfl (.tmp 21) (.tmp 23) _ rfl W.heap.size 70 i0 (.agg #[.int .i64 0, .int .i64 0, .int .i64 0, .int .i64 0, .int .i64 0, .int .i64 0, .int .i64 0]) 7 56 Try.underlying45 hi0 hz0 hz1 hz2 rfl (by decide) _ n _ rfl hO4 _ 1 1 _ rfl (cells7 w2 ⟨f0, f1, f2, x, t, f5, f6⟩ 70) (encFl_one ⟨f0, f1, f2, x, t, f5, f6⟩) (by unfold maxLen; omega) (by omega) (Below.size h4) ?_
      intro A5 c5 w5 hown5 hg5
      have hb5 : On W w5 := Below.grown h4 hg5 (Below.size h4) (fun r e => owns_block hO4 r e)
      refine hK.out _ _ hb5 (fun h5 => ?_)
      clear hK K
      try simp only [Act.put, List.setIfInBounds_toArray, List.set_cons_zero, List.set_cons_succ]
      refine wpAnyH_done (by kernel_rfl) ?_ _
      show wpList _ _ _ _ _ _
      have HE := Lib.hid (show FlsOwn w (l ++ [⟨f0, f1, f2, x, t, f5, f6⟩]) (.returned (.slice A5 (n + 1) c5)) w5 from ⟨A5, n + 1, c5, rfl, by rw [List.length_append, HL.out]; rfl, owns_mono14 (by rw [List.flatMap_append]; exact hown5) HB.out.size, below_then HB.out hb5⟩)
      clear hown5 hg5 hb5
      go_wp2_with fail
      go_ret
      exact HE.out
    · go_simp
      refine hK.out _ _ (On.alloc h1 _) (fun h4 => ?_)
      clear hK K
      try simp only [Act.put, List.setIfInBounds_toArray, List.set_cons_zero, List.set_cons_succ]
      have hX : Box ((W.alloc (.cells #[] 70)).alloc (.cells #[.int .i64 f0, .int .i64 f1, .int .i64 f2, .int .i64 x, .int .i64 t, .int .i64 f5, .int .i64 f6] 70)).drew (W.heap.size + 1) (encFl ⟨f0, f1, f2, x, t, f5, f6⟩) := (show Box ((W.alloc (.cells #[] 70)).alloc (.cells #[.int .i64 f0, .int .i64 f1, .int .i64 f2, .int .i64 x, .int .i64 t, .int .i64 f5, .int .i64 f6] 70)) (W.heap.size + 1) (encFl ⟨f0, f1, f2, x, t, f5, f6⟩) by have := box7 (W.alloc (.cells #[] 70)) ⟨f0, f1, f2, x, t, f5, f6⟩ 70; simpa using this).drew
      have hO4 : ((W.alloc (.cells #[] 70)).alloc (.cells #[.int .i64 f0, .int .i64 f1, .int .i64 f2, .int .i64 x, .int .i64 t, .int .i64 f5, .int .i64 f6] 70)).drew.ownsRow W.heap.size 70 7 (.slice (some ⟨W.heap.size, 0, none⟩) 0 0) 0 [] := owns_below (owns_below (World.ownsRow_made W #[] 0 (Nat.le_refl _) (by decide) rfl) ((Below.refl _ _).alloc (Nat.le_refl _) _)) (Below.refl _ _).drew
      refine wpAnyH_ready (rs := [2]) (by kernel_rfl) (by simp) ?_
      refine AllReadyH.cons rfl (fun K hK => ?_) AllReadyH.nil
      refine step_append_cells _ rfl (.tmp 19) (.tmp 20) _ rfl W.heap.size 70 i0 (.agg #[.int .i64 0, .int .i64 0, .int .i64 0, .int .i64 0, .int .i64 0, .int .i64 0, .int .i64 0]) 7 56 Try.underlying45 hi0 hz0 hz1 hz2 rfl (by decide) _ 0 [] rfl hO4 A n c _ rfl (hC _ h4) (fls_one' l) (by unfold maxLen; omega) (by omega) (Below.size h4) ?_
      intro A2 c2 w2 hown2 hg2
      simp only [Nat.zero_add, List.nil_append] at hown2 ⊢
      have hb2 : On W w2 := Below.grown h4 hg2 (Below.size h4) (fun r e => by injection e with e; simp only at e; omega)
      refine hK.out _ _ hb2 (fun h2 => ?_)
      clear hK K
      try simp only [Act.put, List.setIfInBounds_toArray, List.set_cons_zero, List.set_cons_succ]
      have hX2 := box_grown hX hg2 (fun e => by injection e with e; simp only at e; omega)
      refine wpAnyH_ready (rs := [5]) (by kernel_rfl) (by simp) ?_
      refine AllReadyH.cons rfl (fun K hK => ?_) AllReadyH.nil
      refine step_append_cells _ rfl (.tmp 21) (.tmp 23) _ rfl W.heap.size 70 i0 (.agg #[.int .i64 0, .int .i64 0, .int .i64 0, .int .i64 0, .int .i64 0, .int .i64 0, .int .i64 0]) 7 56 Try.underlying45 hi0 hz0 hz1 hz2 rfl (by decide) _ n _ rfl hown2 _ 1 1 _ rfl (cells_box7 hX2) (encFl_one ⟨f0, f1, f2, x, t, f5, f6⟩) (by unfold maxLen; omega) (by omega) (Below.size h2) ?_
      intro A5 c5 w5 hown5 hg5
      have hb5 : On W w5 := Below.grown h2 hg5 (Below.size h2) (fun r e => owns_block hown2 r e)
      refine hK.out _ _ hb5 (fun h5 => ?_)
      clear hK K
      try simp only [Act.put, List.setIfInBounds_toArray, List.set_cons_zero, List.set_cons_succ]
      refine wpAnyH_done (by kernel_rfl) ?_ _
      show wpList _ _ _ _ _ _
      have HE := Lib.hid (show FlsOwn w (l ++ [⟨f0, f1, f2, x, t, f5, f6⟩]) (.returned (.slice A5 (n + 1) c5)) w5 from ⟨A5, n + 1, c5, rfl, by rw [List.length_append, HL.out]; rfl, owns_mono14 (by rw [List.flatMap_append]; exact hown5) HB.out.size, below_then HB.out hb5⟩)
      clear hown5 hg5 hb5
      go_wp2_with fail
      go_ret
      exact HE.out
  · go_simp
    refine hK.out _ _ (On.alloc h0 _) (fun h4 => ?_)
    clear hK K
    try simp only [Act.put, List.setIfInBounds_toArray, List.set_cons_zero, List.set_cons_succ]
    refine wpAnyH_ready (rs := [0]) (by kernel_rfl) (by simp) ?_
    refine AllReadyH.cons rfl (fun K hK => ?_) AllReadyH.nil
    go_simp
    refine hK.out _ _ (On.alloc h4 _) (fun h1 => ?_)
    clear hK K
    try simp only [Act.put, List.setIfInBounds_toArray, List.set_cons_zero, List.set_cons_succ]
    have hX : Box ((W.alloc (.cells #[.int .i64 f0, .int .i64 f1, .int .i64 f2, .int .i64 x, .int .i64 t, .int .i64 f5, .int .i64 f6] 70)).alloc (.cells #[] 70)).drew W.heap.size (encFl ⟨f0, f1, f2, x, t, f5, f6⟩) := ((box7 W ⟨f0, f1, f2, x, t, f5, f6⟩ 70).alloc _).drew
    have hO4 : ((W.alloc (.cells #[.int .i64 f0, .int .i64 f1, .int .i64 f2, .int .i64 x, .int .i64 t, .int .i64 f5, .int .i64 f6] 70)).alloc (.cells #[] 70)).drew.ownsRow W.heap.size 70 7 (.slice (some ⟨W.heap.size + 1, 0, none⟩) 0 0) 0 [] := owns_below (show ((W.alloc (.cells #[.int .i64 f0, .int .i64 f1, .int .i64 f2, .int .i64 x, .int .i64 t, .int .i64 f5, .int .i64 f6] 70)).alloc (.cells #[] 70)).ownsRow W.heap.size 70 7 (.slice (some ⟨W.heap.size + 1, 0, none⟩) 0 0) 0 [] by have := World.ownsRow_made (W.alloc (.cells #[.int .i64 f0, .int .i64 f1, .int .i64 f2, .int .i64 x, .int .i64 t, .int .i64 f5, .int .i64 f6] 70)) (base := W.heap.size) (e := 70) (size := 7) #[] 0 (by simp) (by decide) rfl; simpa using this) (Below.refl _ _).drew
    refine wpAnyH_ready (rs := [2]) (by kernel_rfl) (by simp) ?_
    refine AllReadyH.cons rfl (fun K hK => ?_) AllReadyH.nil
    refine step_append_cells _ rfl (.tmp 19) (.tmp 20) _ rfl W.heap.size 70 i0 (.agg #[.int .i64 0, .int .i64 0, .int .i64 0, .int .i64 0, .int .i64 0, .int .i64 0, .int .i64 0]) 7 56 Try.underlying45 hi0 hz0 hz1 hz2 rfl (by decide) _ 0 [] rfl hO4 A n c _ rfl (hC _ h1) (fls_one' l) (by unfold maxLen; omega) (by omega) (Below.size h1) ?_
    intro A2 c2 w2 hown2 hg2
    simp only [Nat.zero_add, List.nil_append] at hown2 ⊢
    have hb2 : On W w2 := Below.grown h1 hg2 (Below.size h1) (fun r e => by injection e with e; simp only at e; omega)
    refine hK.out _ _ hb2 (fun h2 => ?_)
    clear hK K
    try simp only [Act.put, List.setIfInBounds_toArray, List.set_cons_zero, List.set_cons_succ]
    have hX2 := box_grown hX hg2 (fun e => by injection e with e; simp only at e; omega)
    refine wpAnyH_ready (rs := [5]) (by kernel_rfl) (by simp) ?_
    refine AllReadyH.cons rfl (fun K hK => ?_) AllReadyH.nil
    refine step_append_cells _ rfl (.tmp 21) (.tmp 23) _ rfl W.heap.size 70 i0 (.agg #[.int .i64 0, .int .i64 0, .int .i64 0, .int .i64 0, .int .i64 0, .int .i64 0, .int .i64 0]) 7 56 Try.underlying45 hi0 hz0 hz1 hz2 rfl (by decide) _ n _ rfl hown2 _ 1 1 _ rfl (cells_box7 hX2) (encFl_one ⟨f0, f1, f2, x, t, f5, f6⟩) (by unfold maxLen; omega) (by omega) (Below.size h2) ?_
    intro A5 c5 w5 hown5 hg5
    have hb5 : On W w5 := Below.grown h2 hg5 (Below.size h2) (fun r e => owns_block hown2 r e)
    refine hK.out _ _ hb5 (fun h5 => ?_)
    clear hK K
    try simp only [Act.put, List.setIfInBounds_toArray, List.set_cons_zero, List.set_cons_succ]
    refine wpAnyH_done (by kernel_rfl) ?_ _
    show wpList _ _ _ _ _ _
    have HE := Lib.hid (show FlsOwn w (l ++ [⟨f0, f1, f2, x, t, f5, f6⟩]) (.returned (.slice A5 (n + 1) c5)) w5 from ⟨A5, n + 1, c5, rfl, by rw [List.length_append, HL.out]; rfl, owns_mono14 (by rw [List.flatMap_append]; exact hown5) HB.out.size, below_then HB.out hb5⟩)
    clear hown5 hg5 hb5
    go_wp2_with fail
    go_ret
    exact HE.out
theorem one_bad {l : List Nd} {k : Nat} {x : Nd} (hx : l[k]? = some x) (h : oneB x = false) : docB l = false := by
  unfold docB
  have : l.all oneB = false := by
    rw [List.all_eq_false]
    exact ⟨x, List.mem_of_getElem? hx, by rw [h]; simp⟩
  rw [this]; rfl
theorem one_good {l : List Nd} (h : ∀ (j : Nat) (x : Nd), j < l.length → l[j]? = some x → oneB x = true) : docB l = forestB l := by
  unfold docB
  have : l.all oneB = true := by
    rw [List.all_eq_true]
    intro x hx
    obtain ⟨j, hj, rfl⟩ := List.getElem_of_mem hx
    exact h j _ hj (List.getElem?_eq_getElem hj)
  rw [this]; rfl
set_option maxHeartbeats 4000000 in
set_option maxRecDepth 100000 in
theorem vIs_to {l : List Nd} {v : Bool} (hv : docB l = v) {A : Option Addr} {n c : Nat} {w : World} (h : Sees w A n l) : Calls Try.prog 6 #[.slice A n c] w fun e w' => e = .returned (.bool v) ∧ Below w.heap.size w w' := by
  have hla := h.len
  have hbd := h.bound
  have HA := Lib.hid h
  have HV := Lib.hid hv
  clear h hv
  go_enter Try.func6, Try.ntmps6
  go_wp2_with fail
  go_loopw [3] (fun i wr => ∃ k : Nat, k ≤ n ∧ i = .int .i64 k ∧ (∀ (j : Nat) (x : Nd), j < k → l[j]? = some x → oneB x = true) ∧ On w wr) (fun i _ => n - (intOf i).toNat)
  case atStart => exact ⟨0, by omega, rfl, fun j x hj => by omega, On.refl w⟩
  case round =>
    obtain ⟨k, hk, rfl, hall, hon⟩ := hrel
    have HL := Lib.hid hall
    have HO := Lib.hid hon
    clear hall hon
    by_cases hlt : k < n
    · obtain ⟨b1, o1, m1, x1, rfl, hb1, e1, r1, s1⟩ := (HA.out.on HO.out).at_ hlt
      have hk2 : (k : Int) < (n : Int) := by omega
      have R1 := Lib.hid (range_on r1)
      have S1 := Lib.hid s1
      have E1 := Lib.hid e1
      obtain ⟨u, hu⟩ : ∃ u, oneB x1 = u := ⟨_, rfl⟩
      have HU := Lib.hid hu
      clear r1 s1 e1 hu
      go_wp2_with ((with_reducible refine stop_load 40 (.tmp 12) ?_ ?_); exact rfl; refine Stop.intro ?_; refine wpList_load_mid rfl 40 (.tmp 12) rfl b1 (o1 + k * 20) rfl (encM m1) _ (R1.out wr (On.refl wr)) Try.underlying40 rfl (by kernel_rfl) ?_)
      refine (vone_to HU.out _ S1.out).mono ?_
      rintro e w5 ⟨rfl, hb5⟩
      have HO5 := Lib.hid (below_then HO.out hb5)
      clear hb5
      cases u with
      | false =>
        have HW := Lib.hid (show v = false by rw [← HV.out]; exact one_bad E1.out HU.out)
        go_wp2_with fail
        go_ret
        exact ⟨ret_bool HW.out.symm, HO5.out⟩
      | true =>
        go_wp2_with fail
        go_roundw
        case rel => exact ⟨k + 1, by omega, by go_num, fun j x hj hx => by
          by_cases e : j = k
          · subst e
            have := E1.out
            rw [this] at hx
            injection hx with hx
            subst hx
            exact HU.out
          · exact HL.out j x (by omega) hx, HO5.out⟩
        case measure => simp [intOf]; omega
    · have hk2 : (n : Int) ≤ (k : Int) := by omega
      have HW := Lib.hid (show forestB l = v by rw [← HV.out]; exact (one_good (fun j x hj => HL.out j x (by omega))).symm)
      go_wp2_with fail
      refine (vrows_all HW.out (HA.out.on HO.out)).mono ?_
      rintro e w5 ⟨rfl, hb5⟩
      have HO5 := Lib.hid (below_then HO.out hb5)
      clear hb5
      go_wp2_with fail
      go_ret
      exact ⟨rfl, HO5.out⟩
theorem vplus_any (a b : Int) (w : World) (ha : 0 ≤ a ∧ a ≤ 1099511627777) (hb : 0 ≤ b ∧ b ≤ 4611686018427387904) : Calls Try.prog 47 #[.int .i64 a, .int .i64 b] w fun e w' => e = .returned (.int .i64 (min (a + b) 1099511627777)) ∧ w = w' := by
  obtain ⟨a1, a2⟩ := ha
  obtain ⟨b1, b2⟩ := hb
  go_enter Try.func47, Try.ntmps47
  go_wp2_with fail
  go_ret
  exact ⟨rfl, rfl⟩
theorem vplus_on {a b c : Int} (hc : min (a + b) 1099511627777 = c) (w : World) (ha : 0 ≤ a ∧ a ≤ 1099511627777) (hb : 0 ≤ b ∧ b ≤ 4611686018427387904) : Calls Try.prog 47 #[.int .i64 a, .int .i64 b] w fun e w' => e = .returned (.int .i64 c) ∧ Below w.heap.size w w' := by
  subst hc
  exact (vplus_any a b w ha hb).mono fun e w' ⟨h, k⟩ => ⟨h, by rw [← k]; exact Below.refl _ _⟩
def gsV (s : Gs) (A : Option Addr) (n c : Nat) (A2 : Option Addr) (m c2 : Nat) : List Value := [.slice A n c, .slice A2 m c2, .int .i64 0, .int .i64 s.pen.1, .int .i64 s.pen.2]
structure GsIn (B : Nat) (W : World) (s : Gs) (A : Option Addr) (n c : Nat) (A2 : Option Addr) (m c2 : Nat) : Prop where
  ams : W.ownsRow B 32 8 (.slice A n c) n (s.ams.flatMap encAm)
  fls : W.ownsRow B 70 7 (.slice A2 m c2) m (s.fls.flatMap encFl)
  apart : Apart A n c A2 m c2
  na : s.ams.length = n
  nf : s.fls.length = m
theorem GsIn.on {B : Nat} {W W' : World} {s : Gs} {A A2 : Option Addr} {n c m c2 : Nat} (h : GsIn B W s A n c A2 m c2) (ho : Below W.heap.size W W') : GsIn B W' s A n c A2 m c2 := ⟨owns_below h.ams ho, owns_below h.fls ho, h.apart, h.na, h.nf⟩
def NewRow (K : Nat) (v v' : Value) : Prop := v'.ownBlock = v.ownBlock ∨ ∀ r, v'.ownBlock = some r → K ≤ r
theorem NewRow.refl (K : Nat) (v : Value) : NewRow K v v := .inl rfl
def GsOut (B : Nat) (w : World) (s : Gs) (A : Option Addr) (n c : Nat) (A2 : Option Addr) (m c2 : Nat) (e : Ending) (w' : World) : Prop :=
  ∃ A' n' c' A2' m' c2', e = .returned (.agg #[.slice A' n' c', .slice A2' m' c2', .int .i64 0, .int .i64 s.pen.1, .int .i64 s.pen.2]) ∧ GsIn B w' s A' n' c' A2' m' c2' ∧ w.grownBy w' (Value.slice A n c).ownBlock ∧ NewRow w.heap.size (.slice A n c) (.slice A' n' c') ∧ NewRow w.heap.size (.slice A2 m c2) (.slice A2' m' c2')
theorem gs_of {w : World} {k : Nat} {s : Gs} {A A2 : Option Addr} {n c m c2 : Nat} (hX : Box w k (gsV s A n c A2 m c2)) : (w.cell? ⟨k, 0, none⟩ = some (.slice A n c) ∧ w.cell? ⟨k, 1, none⟩ = some (.slice A2 m c2) ∧ w.cell? ⟨k, 2, none⟩ = some (.int .i64 0) ∧ w.cell? ⟨k, 3, none⟩ = some (.int .i64 s.pen.1) ∧ w.cell? ⟨k, 4, none⟩ = some (.int .i64 s.pen.2)) ∧
    (w.frozen? ⟨k, 0, none⟩ = false ∧ w.frozen? ⟨k, 1, none⟩ = false ∧ w.frozen? ⟨k, 2, none⟩ = false ∧ w.frozen? ⟨k, 3, none⟩ = false ∧ w.frozen? ⟨k, 4, none⟩ = false) ∧ k < w.heap.size :=
  ⟨⟨hX.2.2 0 _ rfl, hX.2.2 1 _ rfl, hX.2.2 2 _ rfl, hX.2.2 3 _ rfl, hX.2.2 4 _ rfl⟩, ⟨hX.2.1 _, hX.2.1 _, hX.2.1 _, hX.2.1 _, hX.2.1 _⟩, hX.1⟩
theorem nd_of {w : World} {k : Nat} {m : NdM} (hX : Box w k (encM m)) : (w.cell? ⟨k, 0, none⟩ = some (.int .i64 m.kind) ∧ w.cell? ⟨k, 1, none⟩ = some (.int .i64 m.size) ∧ w.cell? ⟨k, 2, none⟩ = some (.int .i64 m.sty.top) ∧ w.cell? ⟨k, 3, none⟩ = some (.int .i64 m.sty.bottom) ∧ w.cell? ⟨k, 4, none⟩ = some (.int .i64 m.sty.padTop) ∧ w.cell? ⟨k, 5, none⟩ = some (.int .i64 m.sty.padBottom) ∧ w.cell? ⟨k, 13, none⟩ = some (.int .i64 m.sty.clear)) ∧
    (w.cell? ⟨k, 14, none⟩ = some (.int .i64 m.line) ∧ w.cell? ⟨k, 15, none⟩ = some (.int .i64 m.space) ∧ w.cell? ⟨k, 16, none⟩ = some (.slice m.A m.n m.c) ∧ w.cell? ⟨k, 17, none⟩ = some (.int .i64 m.side) ∧ w.cell? ⟨k, 18, none⟩ = some (.int .i64 m.w) ∧ w.cell? ⟨k, 19, none⟩ = some (.int .i64 m.h)) ∧ k < w.heap.size :=
  ⟨⟨hX.2.2 0 _ rfl, hX.2.2 1 _ rfl, hX.2.2 2 _ rfl, hX.2.2 3 _ rfl, hX.2.2 4 _ rfl, hX.2.2 5 _ rfl, hX.2.2 13 _ rfl⟩, ⟨hX.2.2 14 _ rfl, hX.2.2 15 _ rfl, hX.2.2 16 _ rfl, hX.2.2 17 _ rfl, hX.2.2 18 _ rfl, hX.2.2 19 _ rfl⟩, hX.1⟩
theorem nd_see {w W : World} {k : Nat} {m : NdM} {x : Nd} (hs : Shows w m x) (hX : Box W k (encM m)) : (W.cell? ⟨k, 0, none⟩ = some (.int .i64 x.kind) ∧ W.cell? ⟨k, 1, none⟩ = some (.int .i64 x.size) ∧ W.cell? ⟨k, 2, none⟩ = some (.int .i64 x.sty.top) ∧ W.cell? ⟨k, 3, none⟩ = some (.int .i64 x.sty.bottom) ∧ W.cell? ⟨k, 4, none⟩ = some (.int .i64 x.sty.padTop) ∧ W.cell? ⟨k, 5, none⟩ = some (.int .i64 x.sty.padBottom) ∧ W.cell? ⟨k, 13, none⟩ = some (.int .i64 x.sty.clear)) ∧
    (W.cell? ⟨k, 14, none⟩ = some (.int .i64 x.line) ∧ W.cell? ⟨k, 15, none⟩ = some (.int .i64 x.space) ∧ W.cell? ⟨k, 16, none⟩ = some (.slice m.A m.n m.c) ∧ W.cell? ⟨k, 17, none⟩ = some (.int .i64 x.side) ∧ W.cell? ⟨k, 18, none⟩ = some (.int .i64 x.w) ∧ W.cell? ⟨k, 19, none⟩ = some (.int .i64 x.h)) ∧ k < W.heap.size := by
  obtain ⟨⟨h1, h2, h3, h4, h5, h6, h7, h8⟩, _⟩ := hs
  have := nd_of hX
  rw [← h1, ← h2, ← h3, ← h4, ← h5, ← h6, ← h7, ← h8] at this
  exact this
theorem encM_alls (m : NdM) : (encM m).toArray.all (·.oneCell') = true := by
  rw [Array.all_eq_true_iff_forall_mem]
  intro u hu
  exact encM_one m u (by simpa using hu)
def zero14 : List Value := [.slice none 0 0, .slice none 0 0, .int .i64 0, .int .i64 0, .int .i64 0]
def Away (K Z : Nat) (v : Value) : Prop := ∀ r, v.ownBlock = some r → r < K ∨ Z ≤ r
theorem Away.ne {K Z k : Nat} {v : Value} (h : Away K Z v) (h1 : K ≤ k) (h2 : k < Z) : ∀ r, v.ownBlock = some r → r ≠ k := fun r e => by have := h r e; omega
theorem owns_far {w w' : World} {base : Nat} {e : TypeId} {size : Nat} {v : Value} {n : Nat} {xs : List Value} {row : Option Nat} (h : w.ownsRow base e size v n xs) (hg : w.grownBy w' row) (hr : ∀ r, v.ownBlock = some r → row ≠ some r) : w'.ownsRow base e size v n xs := by
  refine ⟨h.1, ?_⟩
  rcases h.2 with h2 | ⟨g, cap, cur, h1, h2, h3, h4⟩
  · exact .inl h2
  · exact .inr ⟨g, cap, cur, h1, h2, (hg.block g (Array.getElem?_eq_some_iff.1 h3).1 (fun e => by have := hr g (by rw [h1]; rfl); rw [← e] at this; exact this rfl)).trans h3, h4⟩
structure St14 (B : Nat) (w : World) (Z Q : Nat) (m0 : NdM) (a b : Int) (r0 r2 : Option Nat) (W : World) (s : Gs) (A : Option Addr) (n c : Nat) (A2 : Option Addr) (m c2 : Nat) : Prop where
  box : Box W w.heap.size (gsV s A n c A2 m c2)
  res : Box W (w.heap.size + 1) zero14
  nd : Box W (w.heap.size + 1 + 1) (encM m0)
  sp : Box W Q [.int .i64 a, .int .i64 b]
  gs : GsIn B W s A n c A2 m c2
  fa : Away w.heap.size Z (.slice A n c)
  ff : Away w.heap.size Z (.slice A2 m c2)
  gr : w.grownBy W r0
  nw : (Value.slice A n c).ownBlock = r0 ∨ ∀ r, (Value.slice A n c).ownBlock = some r → Z ≤ r
  nf : (Value.slice A2 m c2).ownBlock = r2 ∨ ∀ r, (Value.slice A2 m c2).ownBlock = some r → Z ≤ r
  zs : Z ≤ W.heap.size
  q0 : w.heap.size + 1 + 1 < Q
  qz : Q < Z
section
variable {B : Nat} {w : World} {Z Q : Nat} {m0 : NdM} {a b : Int} {r0 r2 : Option Nat} {W W' : World} {s : Gs} {A A2 : Option Addr} {n c m c2 : Nat}
theorem St14.on (h : St14 B w Z Q m0 a b r0 r2 W s A n c A2 m c2) (ho : Below W.heap.size W W') : St14 B w Z Q m0 a b r0 r2 W' s A n c A2 m c2 :=
  ⟨h.box.below ho, h.res.below ho, h.nd.below ho, h.sp.below ho, h.gs.on ho, h.fa, h.ff, h.gr.trans ⟨ho.os, ho.tape, ho.output, ho.size, fun k hk _ => ho.block k hk⟩, h.nw, h.nf, Nat.le_trans h.zs ho.size, h.q0, h.qz⟩
theorem St14.lt (h : St14 B w Z Q m0 a b r0 r2 W s A n c A2 m c2) : w.heap.size + 1 + 1 < Z := Nat.lt_trans h.q0 h.qz
theorem St14.grow_set (h : w.grownBy W r0) {k : Nat} (hk : w.heap.size ≤ k) (j : Nat) (v : Value) : w.grownBy (W.setCell ⟨k, j, none⟩ v) r0 := h.andThen (grownBy_setCellN W k j v) (fun i e => by injection e with e; omega)
theorem GsIn.set (h : GsIn B W s A n c A2 m c2) {k : Nat} (h1 : ∀ r, (Value.slice A n c).ownBlock = some r → r ≠ k) (h2 : ∀ r, (Value.slice A2 m c2).ownBlock = some r → r ≠ k) (j : Nat) (v : Value) : GsIn B (W.setCell ⟨k, j, none⟩ v) s A n c A2 m c2 :=
  ⟨owns_far h.ams (grownBy_setCellN W k j v) (fun r e hr => h1 r e (by injection hr with hr; exact hr.symm)), owns_far h.fls (grownBy_setCellN W k j v) (fun r e hr => h2 r e (by injection hr with hr; exact hr.symm)), h.apart, h.na, h.nf⟩
theorem St14.pen (h : St14 B w Z Q m0 a b r0 r2 W s A n c A2 m c2) (y k : Int) : St14 B w Z Q m0 a b r0 r2 ((W.setCell ⟨w.heap.size, 3, none⟩ (.int .i64 y)).setCell ⟨w.heap.size, 4, none⟩ (.int .i64 k)) { s with pen := (y, k) } A n c A2 m c2 := by
  have hl := h.lt
  have h1 := h.fa.ne (k := w.heap.size) (Nat.le_refl _) (by omega)
  have h2 := h.ff.ne (k := w.heap.size) (Nat.le_refl _) (by omega)
  have hg := (h.gs.set h1 h2 3 (.int .i64 y)).set h1 h2 4 (.int .i64 k)
  exact ⟨(h.box.set 3 (.int .i64 y) (by simp [gsV])).set 4 (.int .i64 k) (by simp [gsV]), (h.res.set_other (by omega) _ _).set_other (by omega) _ _, (h.nd.set_other (by omega) _ _).set_other (by omega) _ _, (h.sp.set_other (by have := h.q0; omega) _ _).set_other (by have := h.q0; omega) _ _,
    ⟨hg.ams, hg.fls, hg.apart, hg.na, hg.nf⟩, h.fa, h.ff, St14.grow_set (St14.grow_set h.gr (Nat.le_refl _) _ _) (Nat.le_refl _) _ _, h.nw, h.nf, by simpa using h.zs, h.q0, h.qz⟩
theorem St14.am (h : St14 B w Z Q m0 a b r0 r2 W s A n c A2 m c2) {x : Am} {t : TypeId} {cs : Array Value} {w7 : World} {A7 : Option Addr} {c7 : Nat} (hown : w7.ownsRow B 32 8 (.slice A7 (n + 1) c7) (n + 1) (s.ams.flatMap encAm ++ encAm x))
    (hg : (W.alloc (.cells cs t)).grownBy w7 (Value.slice A n c).ownBlock) (ha : (Value.slice A7 (n + 1) c7).ownBlock = (Value.slice A n c).ownBlock ∨ (Value.slice A7 (n + 1) c7).ownBlock = some (W.alloc (.cells cs t)).heap.size) :
    St14 B w Z Q m0 a b r0 r2 (w7.setCell ⟨w.heap.size, 0, none⟩ (.slice A7 (n + 1) c7)) { s with ams := s.ams ++ [x] } A7 (n + 1) c7 A2 m c2 := by
  have hl := h.lt
  have hal : Below W.heap.size W (W.alloc (.cells cs t)) := (Below.refl _ _).alloc (Nat.le_refl _) _
  have h' := h.on hal
  have hs : W.heap.size ≤ (W.alloc (.cells cs t)).heap.size := hal.size
  have hfa : Away w.heap.size Z (.slice A7 (n + 1) c7) := fun r e => by
    rcases ha with ha | ha
    · exact h.fa r (by rw [← ha]; exact e)
    · rw [ha] at e
      injection e with e
      have := h.zs
      omega
  have h1 := hfa.ne (k := w.heap.size) (Nat.le_refl _) (by omega)
  have h2 := h.ff.ne (k := w.heap.size) (Nat.le_refl _) (by omega)
  have hg7 : GsIn B w7 { s with ams := s.ams ++ [x] } A7 (n + 1) c7 A2 m c2 := by
    refine ⟨?_, owns_other h'.gs.apart h'.gs.fls hg, Apart.left h'.gs.apart h'.gs.fls ha, by simp [h.gs.na], h.gs.nf⟩
    have e : (s.ams ++ [x]).flatMap encAm = s.ams.flatMap encAm ++ encAm x := by simp
    show w7.ownsRow B _ 8 _ (n + 1) ((s.ams ++ [x]).flatMap encAm)
    rw [e]
    exact hown
  have hg8 := hg7.set h1 h2 0 (.slice A7 (n + 1) c7)
  refine ⟨(h'.box.grown hg (h.fa.ne (Nat.le_refl _) (by omega))).set 0 (.slice A7 (n + 1) c7) (by simp [gsV]), (h'.res.grown hg (h.fa.ne (by omega) (by omega))).set_other (by omega) _ _, (h'.nd.grown hg (h.fa.ne (by omega) (by omega))).set_other (by omega) _ _,
    (h'.sp.grown hg (h.fa.ne (by have := h.q0; omega) h.qz)).set_other (by have := h.q0; omega) _ _, hg8, hfa, h.ff, ?_, ?_, h.nf, by have := h'.zs; have := hg.size; simp at *; omega, h.q0, h.qz⟩
  · refine St14.grow_set (h'.gr.andThen hg (fun j e => ?_)) (Nat.le_refl _) _ _
    rcases h.nw with hn | hn
    · right; rw [← hn]; exact e
    · left; have := hn j e; omega
  · rcases ha with ha | ha
    · rw [ha]; exact h.nw
    · right
      intro r e
      rw [ha] at e
      injection e with e
      have := h.zs
      omega
theorem St14.fl (h : St14 B w Z Q m0 a b r0 r2 W s A n c A2 m c2) (hB : B ≤ w.heap.size) {l : List Fl} {w7 : World} {A7 : Option Addr} {n7 c7 : Nat} (hn : n7 = l.length) (hown : w7.ownsRow W.heap.size 70 7 (.slice A7 n7 c7) n7 (l.flatMap encFl)) (hb : Below W.heap.size W w7) :
    St14 B w Z Q m0 a b r0 r2 (w7.setCell ⟨w.heap.size, 1, none⟩ (.slice A7 n7 c7)) { s with fls := l } A n c A7 n7 c7 := by
  have hl := h.lt
  have h' := h.on hb
  have hbl := owns_block hown
  have hff : Away w.heap.size Z (.slice A7 n7 c7) := fun r e => by have := hbl r e; have := h.zs; omega
  have h1 := h.fa.ne (k := w.heap.size) (Nat.le_refl _) (by omega)
  have h2 := hff.ne (k := w.heap.size) (Nat.le_refl _) (by omega)
  have hg7 : GsIn B w7 { s with fls := l } A n c A7 n7 c7 :=
    ⟨h'.gs.ams, owns_mono14 hown (by have := h.zs; omega), fun r e1 e2 => by have := hbl r e2; have := owns_block_lt h.gs.ams r e1; omega, h.gs.na, hn.symm⟩
  exact ⟨h'.box.set 1 (.slice A7 n7 c7) (by simp [gsV]), h'.res.set_other (by omega) _ _, h'.nd.set_other (by omega) _ _, h'.sp.set_other (by have := h.q0; omega) _ _, hg7.set h1 h2 1 _, h.fa, hff, St14.grow_set h'.gr (Nat.le_refl _) _ _, h.nw, .inr (fun r e => by have := hbl r e; have := h.zs; omega), by simpa using h'.zs, h.q0, h.qz⟩
theorem St14.inner (h : St14 B w Z Q m0 a b r0 r2 W s A n c A2 m c2) {s' : Gs} {w7 : World} {A' A2' : Option Addr} {n' c' m' c2' : Nat} (hi : GsIn B w7 s' A' n' c' A2' m' c2') (hg : W.grownBy w7 (Value.slice A n c).ownBlock)
    (hn : NewRow W.heap.size (.slice A n c) (.slice A' n' c')) (hf2 : NewRow W.heap.size (.slice A2 m c2) (.slice A2' m' c2')) :
    St14 B w Z Q m0 a b r0 r2 (((((w7.setCell ⟨w.heap.size, 0, none⟩ (.slice A' n' c')).setCell ⟨w.heap.size, 1, none⟩ (.slice A2' m' c2')).setCell ⟨w.heap.size, 2, none⟩ (.int .i64 0)).setCell ⟨w.heap.size, 3, none⟩ (.int .i64 s'.pen.1)).setCell ⟨w.heap.size, 4, none⟩ (.int .i64 s'.pen.2)) s' A' n' c' A2' m' c2' := by
  have hl := h.lt
  have hz := h.zs
  have hfa : Away w.heap.size Z (.slice A' n' c') := fun r e => by
    rcases hn with hn | hn
    · exact h.fa r (by rw [← hn]; exact e)
    · have := hn r e; omega
  have hf : Away w.heap.size Z (.slice A2' m' c2') := fun r e => by
    rcases hf2 with hn | hn
    · exact h.ff r (by rw [← hn]; exact e)
    · have := hn r e; omega
  have h1 := hfa.ne (k := w.heap.size) (Nat.le_refl _) (by omega)
  have h2 := hf.ne (k := w.heap.size) (Nat.le_refl _) (by omega)
  have hgr : w.grownBy w7 r0 := h.gr.andThen hg (fun j e => by
    rcases h.nw with hn | hn
    · right; rw [← hn]; exact e
    · left; have := hn j e; omega)
  refine ⟨((((((h.box.grown hg (h.fa.ne (Nat.le_refl _) (by omega))).set 0 (.slice A' n' c') (by simp [gsV])).set 1 (.slice A2' m' c2') (by simp [gsV])).set 2 (.int .i64 0) (by simp [gsV])).set 3 (.int .i64 s'.pen.1) (by simp [gsV])).set 4 (.int .i64 s'.pen.2) (by simp [gsV])),
    (((((h.res.grown hg (h.fa.ne (by omega) (by omega))).set_other (by omega) _ _).set_other (by omega) _ _).set_other (by omega) _ _).set_other (by omega) _ _).set_other (by omega) _ _,
    (((((h.nd.grown hg (h.fa.ne (by omega) (by omega))).set_other (by omega) _ _).set_other (by omega) _ _).set_other (by omega) _ _).set_other (by omega) _ _).set_other (by omega) _ _,
    (((((h.sp.grown hg (h.fa.ne (by have := h.q0; omega) h.qz)).set_other (by have := h.q0; omega) _ _).set_other (by have := h.q0; omega) _ _).set_other (by have := h.q0; omega) _ _).set_other (by have := h.q0; omega) _ _).set_other (by have := h.q0; omega) _ _,
    ((((hi.set h1 h2 _ _).set h1 h2 _ _).set h1 h2 _ _).set h1 h2 _ _).set h1 h2 _ _, hfa, hf, ?_, ?_, ?_, by have := hg.size; simp; omega, h.q0, h.qz⟩
  · exact St14.grow_set (St14.grow_set (St14.grow_set (St14.grow_set (St14.grow_set hgr (Nat.le_refl _) _ _) (Nat.le_refl _) _ _) (Nat.le_refl _) _ _) (Nat.le_refl _) _ _) (Nat.le_refl _) _ _
  · rcases hn with hn | hn
    · rw [hn]; exact h.nw
    · right; intro r e; have := hn r e; omega
  · rcases hf2 with hn | hn
    · rw [hn]; exact h.nf
    · right; intro r e; have := hn r e; omega
theorem St14.out (h : St14 B w Z Q m0 a b r0 r2 W s A n c A2 m c2) {A0 A20 : Option Addr} {n0 c0 m0' c20 : Nat} (hr : r0 = (Value.slice A0 n0 c0).ownBlock) (hr2 : r2 = (Value.slice A20 m0' c20).ownBlock) (x0 x1 x2 x3 x4 : Value) :
    GsOut B w s A0 n0 c0 A20 m0' c20 (.returned (.agg #[.slice A n c, .slice A2 m c2, .int .i64 0, .int .i64 s.pen.1, .int .i64 s.pen.2])) (((((W.setCell ⟨w.heap.size + 1, 0, none⟩ x0).setCell ⟨w.heap.size + 1, 1, none⟩ x1).setCell ⟨w.heap.size + 1, 2, none⟩ x2).setCell ⟨w.heap.size + 1, 3, none⟩ x3).setCell ⟨w.heap.size + 1, 4, none⟩ x4) := by
  have hl := h.lt
  have h1 := h.fa.ne (k := w.heap.size + 1) (by omega) (by omega)
  have h2 := h.ff.ne (k := w.heap.size + 1) (by omega) (by omega)
  refine ⟨A, n, c, A2, m, c2, rfl, ((((h.gs.set h1 h2 _ _).set h1 h2 _ _).set h1 h2 _ _).set h1 h2 _ _).set h1 h2 _ _, ?_, ?_, ?_⟩
  · rw [← hr]
    exact St14.grow_set (St14.grow_set (St14.grow_set (St14.grow_set (St14.grow_set h.gr (by omega) _ _) (by omega) _ _) (by omega) _ _) (by omega) _ _) (by omega) _ _
  · rcases h.nw with hn | hn
    · left; rw [hn, hr]
    · right; intro r e; have := hn r e; omega
  · rcases h.nf with hn | hn
    · left; rw [hn, hr2]
    · right; intro r e; have := hn r e; omega
end
end Go.Proofs.Ytipmdhfinlkceaa
namespace Go.Proofs.Ytipmdhfinlkceaa
open Go.RowKit
structure Gal where
  ams : List Am
  fls : List Fl
  high : Int
  err : Int
def galR (L : List Nd) (wd : Int) : Gal := if wd < 1 ∨ maxX < wd then ⟨[], [], 0, 4⟩ else if chkV L ≠ 0 then ⟨[], [], 0, chkV L⟩ else ⟨(galS L wd).ams, floatsS (galS L wd), highS (galS L wd), 0⟩
def GalSeen (w : World) (g : Gal) (e : Ending) (w' : World) : Prop := ∃ A n c A2 m c2, e = .returned (.tuple #[.agg #[.slice A n c, .slice A2 m c2, .int .i64 g.high], .int .i64 g.err]) ∧ Rows 8 encAm w' A n g.ams ∧ Rows 7 encFl w' A2 m g.fls ∧ Below w.heap.size w w' ∧ (∀ q, A = some q → w.heap.size ≤ q.block) ∧ ∀ q, A2 = some q → w.heap.size ≤ q.block
theorem chk_doc {L : List Nd} (h : chkV L = 0) : IsDoc L ∧ sumI highN L ≤ maxN := by
  unfold chkV at h
  by_cases hd : docB L = true
  · rw [if_pos hd] at h
    have hdoc := (docB_iff L).1 hd
    refine ⟨hdoc, ?_⟩
    by_cases ho : overB (sumB L) = true
    · rw [if_pos ho] at h; exact absurd h (by decide)
    · unfold overB at ho
      rw [sumB_eq] at ho
      simp only [Bool.or_eq_true, decide_eq_true_eq, not_or] at ho
      have := ho.2
      have hc : cut (sumI highN L) = min (sumI highN L) 1099511627777 := rfl
      unfold maxN
      omega
  · rw [if_neg hd] at h; exact absurd h (by decide)
def zero3 : List Value := [.slice none 0 0, .slice none 0 0, .int .i64 0]
theorem zero3_of {w : World} {k : Nat} (hX : Box w k zero3) : (w.cell? ⟨k, 0, none⟩ = some (.slice none 0 0) ∧ w.cell? ⟨k, 1, none⟩ = some (.slice none 0 0) ∧ w.cell? ⟨k, 2, none⟩ = some (.int .i64 0)) ∧ (w.frozen? ⟨k, 0, none⟩ = false ∧ w.frozen? ⟨k, 1, none⟩ = false ∧ w.frozen? ⟨k, 2, none⟩ = false) ∧ k < w.heap.size :=
  ⟨⟨hX.2.2 0 _ rfl, hX.2.2 1 _ rfl, hX.2.2 2 _ rfl⟩, ⟨hX.2.1 _, hX.2.1 _, hX.2.1 _⟩, hX.1⟩
theorem rows_far {α : Type} {k : Nat} {enc : α → List Value} {w w' : World} {A : Option Addr} {n : Nat} {l : List α} {row : Option Nat} (h : Rows k enc w A n l) (hg : w.grownBy w' row) (hr : ∀ q, A = some q → row ≠ some q.block) : Rows k enc w' A n l :=
  ⟨h.1, h.2.1, fun hn => by
    obtain ⟨b, off, e, hl, hc⟩ := h.2.2 hn
    exact ⟨b, off, e, Nat.lt_of_lt_of_le hl hg.size, fun i x hx j v hv => hg.cell (hc i x hx j v hv) (fun e2 => hr _ e e2.symm)⟩⟩
theorem penLns_snoc (h : Int) (p : Int × Int) (l : List Ln) (z : Ln) : penLns h p (l ++ [z]) = (z.y + h, 0) := by unfold penLns; rw [List.foldl_append]; rfl
theorem lns_bd {l : List Fl} {ws : List Int} {sp h a b : Int} (h0 : 0 ≤ h) : ∀ (f i : Nat) (y M : Int), (∀ g ∈ l, g.y + g.h ≤ M) → y ≤ M → ∀ z ∈ lnsF l ws sp h a b f i y, y ≤ z.y ∧ z.y + h ≤ M + ((lnsF l ws sp h a b f i y).length : Int) * h
  | 0, i, y, M, hM, hy, z, hz => by cases hz
  | f + 1, i, y, M, hM, hy, z, hz => by
    unfold lnsF at hz ⊢
    by_cases hi : i < ws.length
    · rw [if_pos hi] at hz ⊢
      have hy2 : (lineL l ws sp h a b i y).y = seekE l h (wordI ws i) a b y := rfl
      have hge : y ≤ (lineL l ws sp h a b i y).y := by rw [hy2]; exact seekE_ge _
      have hle : (lineL l ws sp h a b i y).y ≤ M := by rw [hy2]; exact seekE_le hM hy
      have hp : 0 ≤ ((lnsF l ws sp h a b f (lineL l ws sp h a b i y).to_.toNat ((lineL l ws sp h a b i y).y + h)).length : Int) * h := Int.mul_nonneg (by omega) h0
      have e : (((lineL l ws sp h a b i y :: lnsF l ws sp h a b f (lineL l ws sp h a b i y).to_.toNat ((lineL l ws sp h a b i y).y + h)).length : Nat) : Int) * h = ((lnsF l ws sp h a b f (lineL l ws sp h a b i y).to_.toNat ((lineL l ws sp h a b i y).y + h)).length : Int) * h + h := by
        rw [List.length_cons, Int.natCast_add, Int.add_mul]; simp only [Int.natCast_one, Int.one_mul]
      rw [e]
      rcases List.mem_cons.1 hz with rfl | hz
      · omega
      · have ih := lns_bd (l := l) (ws := ws) (sp := sp) (a := a) (b := b) h0 f (lineL l ws sp h a b i y).to_.toNat ((lineL l ws sp h a b i y).y + h) (M + h) (fun g hg => by have := hM g hg; omega) (by omega) z hz
        omega
    · rw [if_neg hi] at hz; cases hz
def doc14A : List Nd := [⟨1, 2, ⟨5, 7, 0, 0, 0, 2, 2, 0, 0, 0, 0, 0⟩, 0, 0, [], 0, 0, 0⟩, ⟨2, 1, .none, 10, 2, [30, 30, 50], 0, 0, 0⟩, ⟨1, 2, ⟨3, 0, 0, 0, 0, 2, 2, 0, 0, 0, 0, 0⟩, 0, 0, [], 0, 0, 0⟩, ⟨3, 1, .none, 0, 0, [], 0, 20, 8⟩]
def ams14A : List Am := [⟨1, 1, 0, 2, 0, 5, 62, 10⟩, ⟨1, 1, 2, 3, 0, 15, 50, 10⟩, ⟨2, 3, 0, 0, 0, 32, 20, 8⟩]
def fls14A : List Fl := []
theorem eval14A : evalF ⟨#[91, 109, 53, 32, 110, 55, 40, 49, 48, 32, 50, 32, 51, 48, 32, 51, 48, 32, 53, 48, 41, 93, 91, 109, 51, 123, 50, 48, 32, 56, 125, 93]⟩ = some (some doc14A, 0) := by show evalF ⟨#[91, 109, 53, 32, 110, 55, 40, 49, 48, 32, 50, 32, 51, 48, 32, 51, 48, 32, 53, 48, 41, 93, 91, 109, 51, 123, 50, 48, 32, 56, 125, 93]⟩ = _; decide +kernel
theorem gal14A : galR doc14A 100 = ⟨ams14A, fls14A, 40, 0⟩ := by kernel_rfl
end Go.Proofs.Ytipmdhfinlkceaa
