import Derived.Test.YtechccoongilcaaDoorJD719
import Derived.Test.YtechccoongilcaaDoorJD721
/- The document's answers for package canon: nodes' text. (Written by program: tools/drafts/gentext7.py.) -/
namespace Go.Proofs.YtechccoongilcaaDoor
open Go.RowKit
set_option linter.unusedVariables false
set_option linter.unusedSimpArgs false
/-- what stands of a node ahead of what is behind it, string by string. -/
def nodeS (x : Nd) (inner : List Nd) : ByteArray := pcS (if x.kind = 1 then [.s 91] ++ styP x.sty ++ canP [] inner ++ [.s 93] else leafP x)
theorem canS_step (b : List Pc) {p i : List Nd} {y : Nd} (hF : Forest p) (hs : y.size = 1 + (i.length : Int)) : pcS (canP b (p ++ y :: i)) = pcS (canP b p) ++ nodeS y i ++ pcS b := by
  have h := canP_cons b y i [] hs
  rw [List.append_nil, canP_nil, List.append_nil] at h
  rw [canP_append b hF, h, pcS_append, pcS_append, ByteArray.append_assoc]
  rfl
theorem pcS_cons2 (p q : Pc) (ps : List Pc) : pcS (p :: q :: ps) = pcS [p] ++ pcS (q :: ps) := pcS_cons p (q :: ps)
theorem nodeS_block {x : Nd} {inner : List Nd} (h : x.kind = 1) : nodeS x inner = bytesOf [91] ++ pcS (styP x.sty) ++ pcS (canP [] inner) ++ bytesOf [93] := by
  unfold nodeS
  rw [if_pos h, pcS_append, pcS_append, pcS_append, pcS_s, pcS_s]
theorem nodeS_text {x : Nd} {inner : List Nd} (h : x.kind = 2) : nodeS x inner = bytesOf [40] ++ digS x.line.toNat ++ bytesOf [32] ++ digS x.space.toNat ++ pcS (wordsP x.words) ++ bytesOf [41] := by
  unfold nodeS leafP
  rw [if_neg (by omega), if_pos h, pcS_append, pcS_append]
  simp only [pcS_cons2, pcS_s, pcS_n, pcS_b, ByteArray.append_assoc]
theorem nodeS_box {x : Nd} {inner : List Nd} (h : x.kind = 3) : nodeS x inner = bytesOf [123] ++ digS x.w.toNat ++ bytesOf [32] ++ digS x.h.toNat ++ bytesOf [125] := by
  unfold nodeS leafP
  rw [if_neg (by omega), if_neg (by omega), if_pos h]
  simp only [pcS_cons2, pcS_s, pcS_n, pcS_b, ByteArray.append_assoc]
theorem nodeS_left {x : Nd} {inner : List Nd} (h : x.kind = 4) (hs : x.side = 1) : nodeS x inner = bytesOf [60, 76] ++ digS x.w.toNat ++ bytesOf [32] ++ digS x.h.toNat ++ bytesOf [62] := by
  unfold nodeS leafP
  rw [if_neg (by omega), if_neg (by omega), if_neg (by omega), if_pos ⟨h, hs⟩]
  rw [show bytesOf [60, 76] = bytesOf [60] ++ bytesOf [76] from bytesOf_append [60] [76]]
  simp only [pcS_cons2, pcS_s, pcS_n, pcS_b, ByteArray.append_assoc]
theorem nodeS_right {x : Nd} {inner : List Nd} (h : x.kind = 4) (hs : x.side = 2) : nodeS x inner = bytesOf [60, 82] ++ digS x.w.toNat ++ bytesOf [32] ++ digS x.h.toNat ++ bytesOf [62] := by
  unfold nodeS leafP
  rw [if_neg (by omega), if_neg (by omega), if_neg (by omega), if_neg (by omega), if_pos ⟨h, hs⟩]
  rw [show bytesOf [60, 82] = bytesOf [60] ++ bytesOf [82] from bytesOf_append [60] [82]]
  simp only [pcS_cons2, pcS_s, pcS_n, pcS_b, ByteArray.append_assoc]
/-- a sum of two strings, named. -/
theorem sum_str {a b : ByteArray} {j k : Nat} (ha : a.size ≤ j) (hb : b.size ≤ k) (hjk : j + k ≤ 4503599627370496) : ∃ c, a ++ b = c ∧ c.size ≤ j + k ∧ ∀ w, (Op.stringOp .add a b).run Tryd.prog w = .ok (.string c) w :=
  ⟨_, rfl, by rw [ByteArray.size_append]; omega, add_str rfl (by omega) (by omega)⟩
theorem digS_le {z : Int} (h0 : 0 ≤ z) (h : z ≤ 1099511627776) : (digS z.toNat).size ≤ 13 := by
  have := digS_size (n := z.toNat) (by omega)
  omega
/-- a node copied into a block of the call's own. -/
def Cp (V : World) (nb : Nat) (m : NdM) (x : Nd) : Prop := Blk V nb 50 (encM m) ∧ Shows V m x
theorem Cp.on {V V' : World} {nb : Nat} {m : NdM} {x : Nd} (h : Cp V nb m x) (ho : On V V') : Cp V' nb m x := ⟨h.1.on ho, h.2.below ho⟩
theorem Cp.kind {V : World} {nb : Nat} {m : NdM} {x : Nd} (h : Cp V nb m x) : V.cell? ⟨nb, 0, none⟩ = some (.int .i64 x.kind) := by rw [h.2.1.1]; exact h.1.box.2.2 0 _ rfl
theorem Cp.size {V : World} {nb : Nat} {m : NdM} {x : Nd} (h : Cp V nb m x) : V.cell? ⟨nb, 1, none⟩ = some (.int .i64 x.size) := by rw [h.2.1.2.1]; exact h.1.box.2.2 1 _ rfl
theorem Cp.line {V : World} {nb : Nat} {m : NdM} {x : Nd} (h : Cp V nb m x) : V.cell? ⟨nb, 14, none⟩ = some (.int .i64 x.line) := by rw [h.2.1.2.2.2.1]; exact h.1.box.2.2 14 _ rfl
theorem Cp.space {V : World} {nb : Nat} {m : NdM} {x : Nd} (h : Cp V nb m x) : V.cell? ⟨nb, 15, none⟩ = some (.int .i64 x.space) := by rw [h.2.1.2.2.2.2.1]; exact h.1.box.2.2 15 _ rfl
theorem Cp.words {V : World} {nb : Nat} {m : NdM} {x : Nd} (h : Cp V nb m x) : V.cell? ⟨nb, 16, none⟩ = some (.slice m.A m.n m.c) := h.1.box.2.2 16 _ rfl
theorem Cp.side {V : World} {nb : Nat} {m : NdM} {x : Nd} (h : Cp V nb m x) : V.cell? ⟨nb, 17, none⟩ = some (.int .i64 x.side) := by rw [h.2.1.2.2.2.2.2.1]; exact h.1.box.2.2 17 _ rfl
theorem Cp.w {V : World} {nb : Nat} {m : NdM} {x : Nd} (h : Cp V nb m x) : V.cell? ⟨nb, 18, none⟩ = some (.int .i64 x.w) := by rw [h.2.1.2.2.2.2.2.2.1]; exact h.1.box.2.2 18 _ rfl
theorem Cp.h {V : World} {nb : Nat} {m : NdM} {x : Nd} (h : Cp V nb m x) : V.cell? ⟨nb, 19, none⟩ = some (.int .i64 x.h) := by rw [h.2.1.2.2.2.2.2.2.2]; exact h.1.box.2.2 19 _ rfl
theorem Cp.sty {V : World} {nb : Nat} {m : NdM} {x : Nd} (h : Cp V nb m x) {j : Nat} {v : Value} (hj : (encS12 x.sty)[j]? = some v) : V.cell? ⟨nb, 2 + j, none⟩ = some v := by
  rw [h.2.1.2.2.1] at hj
  refine h.1.box.2.2 (2 + j) v ?_
  have hl := (List.getElem?_eq_some_iff.1 hj).1
  have : (encS12 m.sty).length = 12 := rfl
  rcases (show j = 0 ∨ j = 1 ∨ j = 2 ∨ j = 3 ∨ j = 4 ∨ j = 5 ∨ j = 6 ∨ j = 7 ∨ j = 8 ∨ j = 9 ∨ j = 10 ∨ j = 11 by omega) with rfl | rfl | rfl | rfl | rfl | rfl | rfl | rfl | rfl | rfl | rfl | rfl <;> exact hj
set_option maxHeartbeats 16000000 in
set_option maxRecDepth 100000 in
theorem vtext_all (L : List Nd) (A : Option Addr) (n ca : Nat) (hn : n ≤ 100000) (hwl : ∀ y ∈ L, y.words.length ≤ 100000) : ∀ (N : Nat) (b : List Pc) (m pre post : List Nd) (k : Nat) (w : World), m.length ≤ N → pre.length = k → L = pre ++ (m ++ post) → Forest m → (∀ y ∈ m, y.fits) → b.length ≤ 1 → fineL b → Sees w A n L → ∀ (bs : ByteArray), pcS b = bs → ∀ (K : Int), K = (k : Int) + (m.length : Int) → ∀ (r : ByteArray), pcS (canP b m) = r →
    Calls Tryd.prog 13 #[.slice A n ca, .int .i64 (k : Int), .int .i64 K, .string bs] w fun e w' => e = .returned (.string r) ∧ Below w.heap.size w w' := by
  intro N
  induction N using Nat.strongRecOn with
  | _ N ih =>
  intro b m pre post k w hN hpk hL hF hfit hb1 hbf hS bs hbs K hK r hr
  have hla := hS.len
  have hln : k + m.length + post.length = n := by rw [← hla, hL, ← hpk]; simp; omega
  have hwm : wts m ≤ 20002700000 := Nat.le_trans (wts_le (W := 100000) (fun y hy => hwl y (by rw [hL]; simp [hy]))) (Nat.le_trans (Nat.mul_le_mul_right _ (show m.length ≤ 100000 by omega)) (by decide))
  have hbsz : bs.size ≤ 13 := by rw [← hbs]; exact pcS_size_le hbf hb1
  have IH := Lib.hid ih
  have HL := Lib.hid hL
  have HPK := Lib.hid hpk
  have HF := Lib.hid hF
  have HFI := Lib.hid hfit
  have HB1 := Lib.hid hb1
  have HBF := Lib.hid hbf
  have HS := Lib.hid hS
  have HBS := Lib.hid hbs
  have HR := Lib.hid hr
  have HWM := Lib.hid hwm
  have HWL := Lib.hid hwl
  have hK1 : K ≤ 100000 := by omega
  have hK2 : 0 ≤ K := by omega
  have HK := Lib.hid hK
  clear ih hL hpk hF hfit hb1 hbf hS hbs hr hwm hla hK
  go_enter Tryd.func13, Tryd.ntmps13
  go_wp2_with fail
  go_loopw [1, 9] (fun at' s wr => ∃ (j : Nat) (p q : List Nd) (sv : ByteArray), at' = .int .i64 ((k + j : Nat) : Int) ∧ s = .string sv ∧ Hid (pcS (canP b p) = sv) ∧ Hid (m = p ++ q) ∧ p.length = j ∧ j ≤ m.length ∧ Hid (Forest p) ∧ Hid (Forest q) ∧ On w wr) (fun at' _ _ => k + m.length - (intOf at').toNat)
  case atStart => exact ⟨0, [], m, ⟨#[]⟩, by go_num, rfl, Lib.hid rfl, Lib.hid rfl, rfl, Nat.zero_le _, Lib.hid .nil, HF, On.refl w⟩
  case round =>
    obtain ⟨j, p, q, sv, rfl, rfl, HSV, HI, hpj, hjl, HFp, HFq, hon⟩ := hrel
    have HO := Lib.hid hon
    have hql : p.length + q.length = m.length := by rw [HI.out, List.length_append]
    clear hon
    by_cases hq : q = []
    · have hjz : K ≤ ((k + j : Nat) : Int) := by have := HK.out; subst hq; simp at hql; omega
      have HV := Lib.hid (show sv = r by rw [← HSV.out, ← HR.out, HI.out, hq, List.append_nil])
      clear hq
      go_wp2_with fail
      go_ret
      exact ⟨by rw [← HV.out]; rfl, HO.out⟩
    obtain ⟨y, i, rr, hqe, hy1, hy2, hfi, hfr⟩ := forest_front HFq.out hq
    have hil : p.length + (1 + (i.length + rr.length)) = m.length := by rw [← hql, hqe]; simp; omega
    have hjz : ((k + j : Nat) : Int) < K := by have := HK.out; omega
    have HI2 := Lib.hid (show m = p ++ y :: (i ++ rr) by rw [HI.out, hqe])
    have HY1 := Lib.hid hy1
    have HY2 := Lib.hid hy2
    have HFi := Lib.hid hfi
    have HFr := Lib.hid hfr
    have hyf : ∀ u ∈ y :: i, u.fits := fun u hu => HFI.out u (by rw [HI2.out]; exact List.mem_append_right _ (by rw [← List.cons_append]; exact List.mem_append_left _ hu))
    have HYF := Lib.hid hyf
    have hpf : ∀ u ∈ p, u.fits := fun u hu => HFI.out u (by rw [HI2.out]; exact List.mem_append_left _ hu)
    have hwsum : wts m = wts p + (wts (y :: i) + wts rr) := by rw [HI2.out, wts_append, ← List.cons_append, wts_append]
    have hsvz : sv.size ≤ 270000000000 := by
      have h1 := can_size HFp.out hpf HB1.out HBF.out
      have h2 := HWM.out
      rw [← HSV.out, pcS_size]
      omega
    have hyi : (pcS (canP [] i)).size ≤ 270000000000 := by
      have h1 := can_size HFi.out (fun u hu => HYF.out u (by simp [hu])) (b := []) (by simp) fine_nil
      have h2 := HWM.out
      rw [wts_cons] at hwsum
      rw [pcS_size]
      omega
    have hyw : y.words.length ≤ 100000 := HWL.out y (by rw [HL.out, HI2.out]; simp)
    have hyx : L[k + j]? = some y := by
      rw [HL.out, HI2.out, List.getElem?_append_right (by have := HPK.out; omega), HPK.out, show k + j - k = j by omega, List.append_assoc, List.getElem?_append_right (by omega), hpj, Nat.sub_self]
      rfl
    have hkn : ((k + j : Nat) : Int) < (n : Int) := by omega
    have hkn' : k + j < n := by omega
    obtain ⟨b1, o1, m1, x1, rfl, hb1, e1, r1, s1⟩ := (HS.out.on HO.out).at_ hkn'
    obtain rfl : y = x1 := by rw [hyx] at e1; injection e1
    have R1 := Lib.hid (range_on r1)
    have S1 := Lib.hid s1
    clear r1 s1 e1 hyx hq hqe hy1 hy2 hfi hfr
    go_wp2_with (first | ((with_reducible refine stop_load 50 (.tmp 17) ?_ ?_); exact rfl; refine Stop.intro ?_; refine wpList_load_mid rfl 50 (.tmp 17) rfl b1 (o1 + (k + j) * 20) rfl (encM m1) _ (R1.out wr (On.refl wr)) Tryd.underlying50 rfl (by kernel_rfl) ?_) | ((with_reducible refine stop_store 50 (.tmp 10) (.tmp 18) ?_ ?_); exact rfl))
    refine Stop.intro ?_
    refine wpList_store_row rfl 50 (.tmp 10) (.tmp 18) rfl wr.heap.size rfl 50 #[.int .i64 0, .int .i64 0, .int .i64 0, .int .i64 0, .int .i64 0, .int .i64 0, .int .i64 0, .int .i64 0, .int .i64 0, .int .i64 0, .int .i64 0, .int .i64 0, .int .i64 0, .int .i64 0, .int .i64 0, .int .i64 0, .slice none 0 0, .int .i64 0, .int .i64 0, .int .i64 0] (encM m1).toArray rfl (Blk.new wr 50 [.int .i64 0, .int .i64 0, .int .i64 0, .int .i64 0, .int .i64 0, .int .i64 0, .int .i64 0, .int .i64 0, .int .i64 0, .int .i64 0, .int .i64 0, .int .i64 0, .int .i64 0, .int .i64 0, .int .i64 0, .int .i64 0, .slice none 0 0, .int .i64 0, .int .i64 0, .int .i64 0] _ rfl _ rfl) (by kernel_rfl) rfl (by rw [List.all_toArray]; exact List.all_eq_true.2 (encM_one m1)) ?_
    intro V hV
    have hOV : On wr V := by rw [hV]; exact below_setRow ((Below.refl _ _).alloc (Nat.le_refl _) _) (Nat.le_refl _) _
    have hC : Cp V wr.heap.size m1 y := ⟨by rw [hV]; exact Blk.row (Blk.new wr 50 [.int .i64 0, .int .i64 0, .int .i64 0, .int .i64 0, .int .i64 0, .int .i64 0, .int .i64 0, .int .i64 0, .int .i64 0, .int .i64 0, .int .i64 0, .int .i64 0, .int .i64 0, .int .i64 0, .int .i64 0, .int .i64 0, .slice none 0 0, .int .i64 0, .int .i64 0, .int .i64 0] _ rfl _ rfl) _ _ rfl, S1.out.below hOV⟩
    have HOV := Lib.hid hOV
    have HC := Lib.hid hC
    have c0 := hC.kind
    have hz0 := HY1.out
    obtain ⟨zs, hzs⟩ : ∃ z, y.size = z := ⟨_, rfl⟩
    rw [hzs] at hz0
    have hz1 : (k : Int) + (j : Int) + zs ≤ 100000 := by have := HK.out; omega
    have hz2 : 1 ≤ zs := by omega
    have HZS := Lib.hid hzs
    have HZ0 := Lib.hid hz0
    have hfy := hyf y (by simp)
    clear hV hOV hC hzs hz0 hyf hpf hwsum
    generalize wr.heap.size = nb at *
    rcases hfy with ⟨hk, hsf, _⟩ | ⟨hk, _, ⟨l0, l1⟩, ⟨s0, s1⟩, _, hws, _⟩ | ⟨hk, _, _, _, _, ⟨w0, w1⟩, ⟨h0, h1⟩, _⟩ | ⟨hk, _, _, _, _, ⟨w0, w1⟩, ⟨h0, h1⟩, ⟨d0, d1⟩⟩
    · rw [hk] at c0
      have HNS := Lib.hid (nodeS_block (inner := i) hk)
      have HSF := Lib.hid hsf
      obtain ⟨q0, q1, q2, q3, q4, q5, q6, q7, q8, q9, q10, q11, hsty⟩ : ∃ a0 a1 a2 a3 a4 a5 a6 a7 a8 a9 a10 a11, y.sty = ⟨a0, a1, a2, a3, a4, a5, a6, a7, a8, a9, a10, a11⟩ := ⟨_, _, _, _, _, _, _, _, _, _, _, _, rfl⟩
      obtain ⟨ys, hys⟩ : ∃ s, pcS (styP y.sty) = s := ⟨_, rfl⟩
      have hysz : ys.size ≤ 13 * 24 := by rw [← hys]; exact pcS_size_le (fine_sty hsf) (styP_len _)
      have HST := Lib.hid (fun w => vstyle_to (v := ys) (by rw [← hsty]; exact hsf) (by rw [← hsty]; exact hys) w)
      obtain ⟨yi, hyii⟩ : ∃ s, pcS (canP [] i) = s := ⟨_, rfl⟩
      rw [hyii] at hyi
      have HYS := Lib.hid hys
      have HYI := Lib.hid hyii
      have HIN := Lib.hid (show ∀ (W : World), On V W → Calls Tryd.prog 13 #[.slice (some ⟨b1, o1, none⟩) n ca, .int .i64 ((k : Int) + (j : Int) + 1), .int .i64 ((k : Int) + (j : Int) + zs), .string ⟨#[]⟩] W fun e w' => e = .returned (.string yi) ∧ Below W.heap.size W w' from fun W hW => by
        have h := IH.out i.length (by omega) [] i (pre ++ (p ++ [y])) (rr ++ post) (k + j + 1) W (Nat.le_refl _) (by have := HPK.out; simp; omega) (by rw [HL.out, HI2.out]; simp) HFi.out (fun u hu => HYF.out u (by simp [hu])) (by simp) fine_nil (HS.out.on (below_then HO.out (below_then HOV.out hW))) ⟨#[]⟩ rfl ((k : Int) + (j : Int) + zs) (by have := HZ0.out; omega) yi HYI.out
        rw [show (((k + j + 1 : Nat)) : Int) = (k : Int) + (j : Int) + 1 by omega] at h
        exact h)
      obtain ⟨u1, hu1, hv1, ha1⟩ := sum_str (b := ⟨#[91]⟩) hsvz (Nat.le_refl 1) (by omega)
      obtain ⟨u2, hu2, hv2, ha2⟩ := sum_str hv1 hysz (by omega)
      obtain ⟨u3, hu3, hv3, ha3⟩ := sum_str hv2 hyi (by omega)
      obtain ⟨u4, hu4, hv4, ha4⟩ := sum_str (b := ⟨#[93]⟩) hv3 (Nat.le_refl 1) (by omega)
      obtain ⟨sz, hsz, hv5, ha5⟩ := sum_str hv4 hbsz (by omega)
      have HSZ := Lib.hid (show pcS (canP b (p ++ y :: i)) = sz by
        rw [canS_step b HFp.out HY1.out, HSV.out, HNS.out, HBS.out, HYS.out, HYI.out, ← hsz, ← hu4, ← hu3, ← hu2, ← hu1]
        simp only [ByteArray.append_assoc]
        rfl)
      have y1 := OnW.cell HC.out.size
      rw [HZS.out] at y1
      have g0 : ∀ p : OnW V, p.w.cell? ⟨nb, 2, none⟩ = some (.int .i64 q0) := OnW.cell (HC.out.sty (j := 0) (by rw [hsty]; rfl))
      have g1 : ∀ p : OnW V, p.w.cell? ⟨nb, 3, none⟩ = some (.int .i64 q1) := OnW.cell (HC.out.sty (j := 1) (by rw [hsty]; rfl))
      have g2 : ∀ p : OnW V, p.w.cell? ⟨nb, 4, none⟩ = some (.int .i64 q2) := OnW.cell (HC.out.sty (j := 2) (by rw [hsty]; rfl))
      have g3 : ∀ p : OnW V, p.w.cell? ⟨nb, 5, none⟩ = some (.int .i64 q3) := OnW.cell (HC.out.sty (j := 3) (by rw [hsty]; rfl))
      have g4 : ∀ p : OnW V, p.w.cell? ⟨nb, 6, none⟩ = some (.int .i64 q4) := OnW.cell (HC.out.sty (j := 4) (by rw [hsty]; rfl))
      have g5 : ∀ p : OnW V, p.w.cell? ⟨nb, 7, none⟩ = some (.int .i64 q5) := OnW.cell (HC.out.sty (j := 5) (by rw [hsty]; rfl))
      have g6 : ∀ p : OnW V, p.w.cell? ⟨nb, 8, none⟩ = some (.int .i64 q6) := OnW.cell (HC.out.sty (j := 6) (by rw [hsty]; rfl))
      have g7 : ∀ p : OnW V, p.w.cell? ⟨nb, 9, none⟩ = some (.int .i64 q7) := OnW.cell (HC.out.sty (j := 7) (by rw [hsty]; rfl))
      have g8 : ∀ p : OnW V, p.w.cell? ⟨nb, 10, none⟩ = some (.int .i64 q8) := OnW.cell (HC.out.sty (j := 8) (by rw [hsty]; rfl))
      have g9 : ∀ p : OnW V, p.w.cell? ⟨nb, 11, none⟩ = some (.int .i64 q9) := OnW.cell (HC.out.sty (j := 9) (by rw [hsty]; rfl))
      have g10 : ∀ p : OnW V, p.w.cell? ⟨nb, 12, none⟩ = some (.int .i64 q10) := OnW.cell (HC.out.sty (j := 10) (by rw [hsty]; rfl))
      have g11 : ∀ p : OnW V, p.w.cell? ⟨nb, 13, none⟩ = some (.int .i64 q11) := OnW.cell (HC.out.sty (j := 11) (by rw [hsty]; rfl))
      have HIN2 := Lib.hid (fun p : OnW V => HIN.out p.w p.h)
      clear hsty hys hyii hsf hu1 hu2 hu3 hu4 hsz hv1 hv2 hv3 hv4 hv5 hysz hyi hsvz
      go_wp2_with fail
      refine wp_region_on (by kernel_rfl) (by kernel_rfl) ?_
      repeat (go_big_quiet_step ((first
        | (go_at_call 27; with_reducible exact Calls.on_of (HST.out _))
        | (go_at_call 13; with_reducible exact Calls.on_of (HIN2.out _)))))
      refine wpQuiet_nil ?_
      intro w3 hw'
      obtain ⟨⟨w', hOn⟩, hw''⟩ := hw'
      obtain rfl : w3 = w' := hw''
      have hC3 := HC.out.on hOn
      have c0 := hC3.kind
      have c1 := hC3.size
      rw [hk] at c0
      rw [HZS.out] at c1
      have HOZ := Lib.hid (show On w w3 from below_then (below_then HO.out HOV.out) hOn)
      clear hOn hC3 y1 g0 g1 g2 g3 g4 g5 g6 g7 g8 g9 g10 g11 hk
      go_wp2_with fail
      go_roundw
      case rel => exact ⟨j + 1 + i.length, p ++ y :: i, rr, sz, by rw [HZ0.out]; congr 1; omega, rfl, HSZ, Lib.hid (by rw [HI2.out]; simp), by simp; omega, by omega, Lib.hid (HFp.out.append (forest_one HY1.out HY2.out HFi.out)), HFr, HOZ.out⟩
      case measure => simp [intOf]; omega
    · rw [hk] at c0
      unfold maxN at l1 s1
      have HNS := Lib.hid (nodeS_text (inner := i) hk)
      obtain ⟨e1, hd1⟩ : ∃ s, digS y.line.toNat = s := ⟨_, rfl⟩
      obtain ⟨e2, hd2⟩ : ∃ s, digS y.space.toNat = s := ⟨_, rfl⟩
      have hz3 : e1.size ≤ 13 := by rw [← hd1]; exact digS_le (by omega) l1
      have hz4 : e2.size ≤ 13 := by rw [← hd2]; exact digS_le (by omega) s1
      have HD1 := Lib.hid (fun w => vdig_to (z := y.line) (by omega) l1 hd1 w)
      have HD2 := Lib.hid (fun w => vdig_to (z := y.space) (by omega) s1 hd2 w)
      have HE1 := Lib.hid hd1
      have HE2 := Lib.hid hd2
      have HWS := Lib.hid (show ∀ z ∈ y.words, 0 ≤ z ∧ z ≤ 1099511627776 from fun z hz => by have := hws z hz; unfold okN maxN at this; omega)
      obtain ⟨u1, hu1, hv1, ha1⟩ := sum_str (b := ⟨#[40]⟩) hsvz (Nat.le_refl 1) (by omega)
      obtain ⟨u2, hu2, hv2, ha2⟩ := sum_str hv1 hz3 (by omega)
      obtain ⟨u3, hu3, hv3, ha3⟩ := sum_str (b := ⟨#[32]⟩) hv2 (Nat.le_refl 1) (by omega)
      obtain ⟨u4, hu4, hv4, ha4⟩ := sum_str hv3 hz4 (by omega)
      have HU := Lib.hid (show pcS (canP b p) ++ bytesOf [40] ++ digS y.line.toNat ++ bytesOf [32] ++ digS y.space.toNat = u4 by
        rw [HSV.out, HE1.out, HE2.out, ← hu4, ← hu3, ← hu2, ← hu1]
        rfl)
      have hu4z : u4.size ≤ 270000000100 := by omega
      have HUZ := Lib.hid hu4z
      have y14 := OnW.cell HC.out.line
      have y15 := OnW.cell HC.out.space
      clear hd1 hd2 hws hu1 hu2 hu3 hu4 hv1 hv2 hv3 hv4 hz3 hz4 hyi hsvz hu4z
      go_wp2_with fail
      refine wp_region_on (by kernel_rfl) (by kernel_rfl) ?_
      repeat (go_big_quiet_step ((first
        | (go_at_call 28; with_reducible exact Calls.on_of (HD1.out _))
        | (go_at_call 28; with_reducible exact Calls.on_of (HD2.out _)))))
      refine wpQuiet_nil ?_
      intro w3 hw'
      obtain ⟨⟨w', hOn⟩, hw''⟩ := hw'
      obtain rfl : w3 = w' := hw''
      have HC3 := Lib.hid (HC.out.on hOn)
      have HO3 := Lib.hid (show On w w3 from below_then (below_then HO.out HOV.out) hOn)
      have hml : m1.n = y.words.length := S1.out.2.1.symm
      have HML := Lib.hid hml
      have hmb : m1.n ≤ 100000 := by omega
      clear hOn y14 y15 ha1 ha2 ha3 ha4 hml c0
      go_wp2_with fail
      go_loopw [9, 11] (fun s i' wq => ∃ (t : Nat) (tv : ByteArray), s = .string tv ∧ i' = .int .i64 (t : Int) ∧ t ≤ m1.n ∧ Hid (u4 ++ pcS (wordsP (y.words.take t)) = tv) ∧ On w3 wq) (fun _ i' _ => m1.n - (intOf i').toNat)
      case atStart => exact ⟨0, u4, rfl, rfl, Nat.zero_le _, Lib.hid (by rw [List.take_zero]; show u4 ++ pcS [] = u4; rw [pcS_nil]; exact ByteArray.append_empty), On.refl w3⟩
      case round =>
        obtain ⟨t, tv, rfl, rfl, htn, HTV, hon2⟩ := hrel
        have HO4 := Lib.hid hon2
        have hC4 := HC3.out.on hon2
        have c16 := hC4.words
        have htz : tv.size ≤ 270002600100 := by
          have h1 := words_text (y.words.take t) (fun z hz => HWS.out z (List.mem_of_mem_take hz))
          rw [List.length_take] at h1
          have h2 := HUZ.out
          have h3 := HML.out
          rw [← HTV.out, ByteArray.size_append, pcS_size]
          omega
        by_cases hlt : t < m1.n
        · obtain ⟨z, hzk⟩ : ∃ z, y.words[t]?.getD 0 = z := ⟨_, rfl⟩
          obtain ⟨b2, o2, hA2, hcz⟩ := hC4.2.2.at_ hlt
          rw [hA2] at c16
          rw [hzk] at hcz
          have htw : t < y.words.length := by rw [← HML.out]; exact hlt
          have hbd : 0 ≤ z ∧ z ≤ 1099511627776 := by
            rw [← hzk, List.getElem?_eq_getElem htw]
            exact HWS.out _ (List.getElem_mem _)
          obtain ⟨z0, z1⟩ := hbd
          obtain ⟨ed, hed⟩ : ∃ s, digS z.toNat = s := ⟨_, rfl⟩
          have hzd : ed.size ≤ 13 := by rw [← hed]; exact digS_le z0 z1
          have HDZ := Lib.hid (fun w => vdig_to z0 z1 hed w)
          obtain ⟨v1, hv1, hq1, hb1'⟩ := sum_str (b := ⟨#[32]⟩) htz (Nat.le_refl 1) (by omega)
          obtain ⟨v2, hv2, hq2, hb2'⟩ := sum_str hq1 hzd (by omega)
          have HT2 := Lib.hid (show u4 ++ pcS (wordsP (y.words.take (t + 1))) = v2 by
            rw [wordsP_snoc htw, hzk, pcS_append, pcS_cons, pcS_b, pcS_n, hed, ← hv2, ← hv1, ← HTV.out]
            simp only [ByteArray.append_assoc]
            rfl)
          have htk : (t : Int) < (m1.n : Int) := by omega
          have HTL := Lib.hid (show t + 1 ≤ m1.n from hlt)
          clear hA2 hzk hed hzd htw hv1 hv2 hq1 hq2 htz hC4 hon2 z0 z1
          go_wp2_with fail
          refine (HDZ.out _).mono ?_
          rintro e w5 ⟨rfl, hb5⟩
          have HO5 := Lib.hid (HO4.out.step hb5)
          clear hb5 c16 hcz
          go_wp2_with fail
          go_roundw
          case rel => exact ⟨t + 1, v2, rfl, by go_num, HTL.out, HT2, HO5.out⟩
          case measure => have := HTL.out; simp [intOf]; omega
        · have htk : (m1.n : Int) ≤ (t : Int) := by omega
          obtain ⟨v1, hv1, hq1, hb1'⟩ := sum_str (b := ⟨#[41]⟩) htz (Nat.le_refl 1) (by omega)
          obtain ⟨sz, hsz, hq2, hb2'⟩ := sum_str hq1 hbsz (by omega)
          have HSZ := Lib.hid (show pcS (canP b (p ++ y :: i)) = sz by
            rw [canS_step b HFp.out HY1.out, HNS.out, HBS.out, ← hsz, ← hv1, ← HTV.out, List.take_of_length_le (by have := HML.out; omega), ← HU.out]
            simp only [ByteArray.append_assoc]
            rfl)
          have c0 := hC4.kind
          have c1 := hC4.size
          rw [hk] at c0
          rw [HZS.out] at c1
          have HOZ := Lib.hid (below_then HO3.out HO4.out)
          clear hv1 hq1 hsz hq2 htz hC4 hon2 hk
          go_wp2_with fail
          go_roundw
          case rel => exact ⟨j + 1 + i.length, p ++ y :: i, rr, sz, by rw [HZ0.out]; congr 1; omega, rfl, HSZ, Lib.hid (by rw [HI2.out]; simp), by simp; omega, by omega, Lib.hid (HFp.out.append (forest_one HY1.out HY2.out HFi.out)), HFr, HOZ.out⟩
          case measure => simp [intOf]; omega
    · rw [hk] at c0
      unfold maxN at w1 h1
      have HNS := Lib.hid (nodeS_box (inner := i) hk)
      obtain ⟨e1, hd1⟩ : ∃ s, digS y.w.toNat = s := ⟨_, rfl⟩
      obtain ⟨e2, hd2⟩ : ∃ s, digS y.h.toNat = s := ⟨_, rfl⟩
      have hz3 : e1.size ≤ 13 := by rw [← hd1]; exact digS_le (by omega) w1
      have hz4 : e2.size ≤ 13 := by rw [← hd2]; exact digS_le (by omega) h1
      have HD1 := Lib.hid (fun w => vdig_to (z := y.w) (by omega) w1 hd1 w)
      have HD2 := Lib.hid (fun w => vdig_to (z := y.h) (by omega) h1 hd2 w)
      have HE1 := Lib.hid hd1
      have HE2 := Lib.hid hd2
      obtain ⟨u1, hu1, hv1, ha1⟩ := sum_str (b := ⟨#[123]⟩) hsvz (Nat.le_refl 1) (by omega)
      obtain ⟨u2, hu2, hv2, ha2⟩ := sum_str hv1 hz3 (by omega)
      obtain ⟨u3, hu3, hv3, ha3⟩ := sum_str (b := ⟨#[32]⟩) hv2 (Nat.le_refl 1) (by omega)
      obtain ⟨u4, hu4, hv4, ha4⟩ := sum_str hv3 hz4 (by omega)
      obtain ⟨u5, hu5, hv5, ha5⟩ := sum_str (b := ⟨#[125]⟩) hv4 (Nat.le_refl 1) (by omega)
      obtain ⟨sz, hsz, hv6, ha6⟩ := sum_str hv5 hbsz (by omega)
      have HSZ := Lib.hid (show pcS (canP b (p ++ y :: i)) = sz by
        rw [canS_step b HFp.out HY1.out, HSV.out, HNS.out, HBS.out, HE1.out, HE2.out, ← hsz, ← hu5, ← hu4, ← hu3, ← hu2, ← hu1]
        simp only [ByteArray.append_assoc]
        rfl)
      have y18 := OnW.cell HC.out.w
      have y19 := OnW.cell HC.out.h
      clear hd1 hd2 hu1 hu2 hu3 hu4 hu5 hsz hv1 hv2 hv3 hv4 hv5 hv6 hz3 hz4 hyi hsvz
      go_wp2_with fail
      refine wp_region_on (by kernel_rfl) (by kernel_rfl) ?_
      repeat (go_big_quiet_step ((first
        | (go_at_call 28; with_reducible exact Calls.on_of (HD1.out _))
        | (go_at_call 28; with_reducible exact Calls.on_of (HD2.out _)))))
      refine wpQuiet_nil ?_
      intro w3 hw'
      obtain ⟨⟨w', hOn⟩, hw''⟩ := hw'
      obtain rfl : w3 = w' := hw''
      have hC3 := HC.out.on hOn
      have c0 := hC3.kind
      have c1 := hC3.size
      rw [hk] at c0
      rw [HZS.out] at c1
      have HOZ := Lib.hid (show On w w3 from below_then (below_then HO.out HOV.out) hOn)
      clear hOn hC3 y18 y19 hk
      go_wp2_with fail
      go_roundw
      case rel => exact ⟨j + 1 + i.length, p ++ y :: i, rr, sz, by rw [HZ0.out]; congr 1; omega, rfl, HSZ, Lib.hid (by rw [HI2.out]; simp), by simp; omega, by omega, Lib.hid (HFp.out.append (forest_one HY1.out HY2.out HFi.out)), HFr, HOZ.out⟩
      case measure => simp [intOf]; omega
    · unfold maxN at w1 h1
      rcases (show y.side = 1 ∨ y.side = 2 by omega) with hd | hd
      · rw [hk] at c0
        have HNS := Lib.hid (nodeS_left (inner := i) hk hd)
        obtain ⟨e1, hd1⟩ : ∃ s, digS y.w.toNat = s := ⟨_, rfl⟩
        obtain ⟨e2, hd2⟩ : ∃ s, digS y.h.toNat = s := ⟨_, rfl⟩
        have hz3 : e1.size ≤ 13 := by rw [← hd1]; exact digS_le (by omega) w1
        have hz4 : e2.size ≤ 13 := by rw [← hd2]; exact digS_le (by omega) h1
        have HD1 := Lib.hid (fun w => vdig_to (z := y.w) (by omega) w1 hd1 w)
        have HD2 := Lib.hid (fun w => vdig_to (z := y.h) (by omega) h1 hd2 w)
        have HE1 := Lib.hid hd1
        have HE2 := Lib.hid hd2
        obtain ⟨u1, hu1, hv1, ha1⟩ := sum_str (b := ⟨#[60, 76]⟩) hsvz (Nat.le_refl 2) (by omega)
        obtain ⟨u2, hu2, hv2, ha2⟩ := sum_str hv1 hz3 (by omega)
        obtain ⟨u3, hu3, hv3, ha3⟩ := sum_str (b := ⟨#[32]⟩) hv2 (Nat.le_refl 1) (by omega)
        obtain ⟨u4, hu4, hv4, ha4⟩ := sum_str hv3 hz4 (by omega)
        obtain ⟨u5, hu5, hv5, ha5⟩ := sum_str (b := ⟨#[62]⟩) hv4 (Nat.le_refl 1) (by omega)
        obtain ⟨sz, hsz, hv6, ha6⟩ := sum_str hv5 hbsz (by omega)
        have HSZ := Lib.hid (show pcS (canP b (p ++ y :: i)) = sz by
          rw [canS_step b HFp.out HY1.out, HSV.out, HNS.out, HBS.out, HE1.out, HE2.out, ← hsz, ← hu5, ← hu4, ← hu3, ← hu2, ← hu1]
          simp only [ByteArray.append_assoc]
          rfl)
        have y18 := OnW.cell HC.out.w
        have y19 := OnW.cell HC.out.h
        have c17 := HC.out.side
        rw [hd] at c17
        clear hd1 hd2 hu1 hu2 hu3 hu4 hu5 hsz hv1 hv2 hv3 hv4 hv5 hv6 hz3 hz4 hyi hsvz
        go_wp2_with fail
        refine wp_region_on (by kernel_rfl) (by kernel_rfl) ?_
        repeat (go_big_quiet_step ((first
          | (go_at_call 28; with_reducible exact Calls.on_of (HD1.out _))
          | (go_at_call 28; with_reducible exact Calls.on_of (HD2.out _)))))
        refine wpQuiet_nil ?_
        intro w3 hw'
        obtain ⟨⟨w', hOn⟩, hw''⟩ := hw'
        obtain rfl : w3 = w' := hw''
        have hC3 := HC.out.on hOn
        have c0 := hC3.kind
        have c1 := hC3.size
        rw [hk] at c0
        rw [HZS.out] at c1
        have c17 := hC3.side
        rw [hd] at c17
        have HOZ := Lib.hid (show On w w3 from below_then (below_then HO.out HOV.out) hOn)
        clear hOn hC3 y18 y19 hk hd
        go_wp2_with fail
        go_roundw
        case rel => exact ⟨j + 1 + i.length, p ++ y :: i, rr, sz, by rw [HZ0.out]; congr 1; omega, rfl, HSZ, Lib.hid (by rw [HI2.out]; simp), by simp; omega, by omega, Lib.hid (HFp.out.append (forest_one HY1.out HY2.out HFi.out)), HFr, HOZ.out⟩
        case measure => simp [intOf]; omega
      · rw [hk] at c0
        have HNS := Lib.hid (nodeS_right (inner := i) hk hd)
        obtain ⟨e1, hd1⟩ : ∃ s, digS y.w.toNat = s := ⟨_, rfl⟩
        obtain ⟨e2, hd2⟩ : ∃ s, digS y.h.toNat = s := ⟨_, rfl⟩
        have hz3 : e1.size ≤ 13 := by rw [← hd1]; exact digS_le (by omega) w1
        have hz4 : e2.size ≤ 13 := by rw [← hd2]; exact digS_le (by omega) h1
        have HD1 := Lib.hid (fun w => vdig_to (z := y.w) (by omega) w1 hd1 w)
        have HD2 := Lib.hid (fun w => vdig_to (z := y.h) (by omega) h1 hd2 w)
        have HE1 := Lib.hid hd1
        have HE2 := Lib.hid hd2
        obtain ⟨u1, hu1, hv1, ha1⟩ := sum_str (b := ⟨#[60, 82]⟩) hsvz (Nat.le_refl 2) (by omega)
        obtain ⟨u2, hu2, hv2, ha2⟩ := sum_str hv1 hz3 (by omega)
        obtain ⟨u3, hu3, hv3, ha3⟩ := sum_str (b := ⟨#[32]⟩) hv2 (Nat.le_refl 1) (by omega)
        obtain ⟨u4, hu4, hv4, ha4⟩ := sum_str hv3 hz4 (by omega)
        obtain ⟨u5, hu5, hv5, ha5⟩ := sum_str (b := ⟨#[62]⟩) hv4 (Nat.le_refl 1) (by omega)
        obtain ⟨sz, hsz, hv6, ha6⟩ := sum_str hv5 hbsz (by omega)
        have HSZ := Lib.hid (show pcS (canP b (p ++ y :: i)) = sz by
          rw [canS_step b HFp.out HY1.out, HSV.out, HNS.out, HBS.out, HE1.out, HE2.out, ← hsz, ← hu5, ← hu4, ← hu3, ← hu2, ← hu1]
          simp only [ByteArray.append_assoc]
          rfl)
        have y18 := OnW.cell HC.out.w
        have y19 := OnW.cell HC.out.h
        have c17 := HC.out.side
        rw [hd] at c17
        clear hd1 hd2 hu1 hu2 hu3 hu4 hu5 hsz hv1 hv2 hv3 hv4 hv5 hv6 hz3 hz4 hyi hsvz
        go_wp2_with fail
        refine wp_region_on (by kernel_rfl) (by kernel_rfl) ?_
        repeat (go_big_quiet_step ((first
          | (go_at_call 28; with_reducible exact Calls.on_of (HD1.out _))
          | (go_at_call 28; with_reducible exact Calls.on_of (HD2.out _)))))
        refine wpQuiet_nil ?_
        intro w3 hw'
        obtain ⟨⟨w', hOn⟩, hw''⟩ := hw'
        obtain rfl : w3 = w' := hw''
        have hC3 := HC.out.on hOn
        have c0 := hC3.kind
        have c1 := hC3.size
        rw [hk] at c0
        rw [HZS.out] at c1
        have c17 := hC3.side
        rw [hd] at c17
        have HOZ := Lib.hid (show On w w3 from below_then (below_then HO.out HOV.out) hOn)
        clear hOn hC3 y18 y19 hk hd
        go_wp2_with fail
        go_roundw
        case rel => exact ⟨j + 1 + i.length, p ++ y :: i, rr, sz, by rw [HZ0.out]; congr 1; omega, rfl, HSZ, Lib.hid (by rw [HI2.out]; simp), by simp; omega, by omega, Lib.hid (HFp.out.append (forest_one HY1.out HY2.out HFi.out)), HFr, HOZ.out⟩
        case measure => simp [intOf]; omega
end Go.Proofs.YtechccoongilcaaDoor
