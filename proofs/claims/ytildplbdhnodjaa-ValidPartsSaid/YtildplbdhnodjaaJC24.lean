import Derived.Test.YtildplbdhnodjaaJC23
import Derived.Test.YtildplbdhnodjaaJC04
/- The walk of the law ValidParts. (Written by program: tools/drafts/genpartsw.py.) -/
namespace Go.Proofs.Ytildplbdhnodjaa
open Go.RowKit
set_option linter.unusedVariables false
set_option linter.unusedSimpArgs false
theorem doc_true' {l : List Nd} (h : IsDoc l) : docB l = true := (docB_iff l).2 h
theorem doc_sums' {l : List Nd} (h : IsDoc l) : ansV l = (sumB l, 0) := by unfold ansV; rw [if_pos (doc_true' h)]
theorem sees_append {w : World} {zs zs' : List NdM} {l l' : List Nd} (h1 : zs.length = l.length) (h : ∀ (i : Nat) (m : NdM) (x : Nd), zs[i]? = some m → l[i]? = some x → Shows w m x) (h' : ∀ (i : Nat) (m : NdM) (x : Nd), zs'[i]? = some m → l'[i]? = some x → Shows w m x) :
    ∀ (i : Nat) (m : NdM) (x : Nd), (zs ++ zs')[i]? = some m → (l ++ l')[i]? = some x → Shows w m x := fun i m x e1 e2 => by
  rcases Nat.lt_or_ge i zs.length with hi | hi
  · rw [List.getElem?_append_left hi] at e1
    rw [List.getElem?_append_left (by omega)] at e2
    exact h i m x e1 e2
  · rw [List.getElem?_append_right hi] at e1
    rw [List.getElem?_append_right (by omega), ← h1] at e2
    exact h' _ m x e1 e2
theorem ans_bad {l : List Nd} {s : Sm} {f : Int} (h : ansV l = (s, f)) : (f = 0 ∧ IsDoc l ∧ s = sumB l) ∨ (f = 4 ∧ s = ⟨0, 0, 0, 0⟩) := by
  rcases ansV_err h with ⟨e1, e2, e3⟩ | ⟨e1, e2, e3⟩
  · exact .inl ⟨e1, (docB_iff l).1 e2, e3⟩
  · exact .inr ⟨e1, e3⟩
set_option maxHeartbeats 8000000 in
set_option maxRecDepth 100000 in
theorem parts_vast (A : Option Addr) (n c : Nat) (B : Option Addr) (m cb : Nat) (w : World) (hn : 200 < n ∨ 200 < m) : Calls Try.prog 4 #[.slice A n c, .slice B m cb] w fun e w' => e = .returned (.bool true) ∧ Below w.heap.size w w' := by
  by_cases h : 200 < n
  · have k1 : (200 : Int) < (n : Int) := by omega
    go_enter Try.func4, Try.ntmps4
    go_wp2_with fail
    refine (vawake_any _).mono ?_
    rintro e w1 ⟨rfl, hb⟩
    have HB := Lib.hid hb
    clear hb
    go_wp2_with fail
    go_ret
    exact ⟨rfl, HB.out⟩
  · have k1 : (n : Int) ≤ 200 := by omega
    have k2 : (200 : Int) < (m : Int) := by omega
    go_enter Try.func4, Try.ntmps4
    go_wp2_with fail
    refine (vawake_any _).mono ?_
    rintro e w1 ⟨rfl, hb⟩
    have HB := Lib.hid hb
    clear hb
    go_wp2_with fail
    go_ret
    exact ⟨rfl, HB.out⟩
set_option maxHeartbeats 8000000 in
set_option maxRecDepth 100000 in
theorem validparts_law (A : Option Addr) (n c : Nat) (l : List Nd) (hc : n ≤ c ∧ c ≤ 9223372036854775807) (B : Option Addr) (m cb : Nat) (r : List Nd) (hcb : m ≤ cb ∧ cb ≤ 9223372036854775807) (w : World) (hl : Sees w A n l) (hr : Sees w B m r) : Calls Try.prog 4 #[.slice A n c, .slice B m cb] w fun e w' => e = .returned (.bool true) ∧ Below w.heap.size w w' := by
  by_cases hv : 200 < n ∨ 200 < m
  · exact parts_vast A n c B m cb w hv
  obtain ⟨j0, hj0, hy0, hy1, hy2⟩ := info_parts node_infoV
  have hn200 : n ≤ 200 := by omega
  have hm200 : m ≤ 200 := by omega
  have k1 : (n : Int) ≤ 200 := by omega
  have k2 : (m : Int) ≤ 200 := by omega
  have hla := hl.len
  have hlb := hr.len
  obtain ⟨hc1, hc2⟩ := hc
  have HL := Lib.hid hl
  have HR := Lib.hid hr
  have HPL := Lib.hid (show PreV l w A n from ⟨hl, by omega⟩)
  have HPR := Lib.hid (show PreV r w B m from ⟨hr, by omega⟩)
  obtain ⟨⟨⟨s0, s1, s2, s3⟩, e⟩, hs⟩ : ∃ a, ansV l = a := ⟨_, rfl⟩
  obtain ⟨⟨⟨t0, t1, t2, t3⟩, f⟩, ht⟩ : ∃ a, ansV r = a := ⟨_, rfl⟩
  obtain ⟨⟨⟨u0, u1, u2, u3⟩, g⟩, hu⟩ : ∃ a, ansV (l ++ r) = a := ⟨_, rfl⟩
  have HS := Lib.hid hs
  have HT := Lib.hid ht
  have HU := Lib.hid hu
  clear hl hr hv hs ht hu hcb
  go_enter Try.func4, Try.ntmps4
  go_wp2_with fail
  refine (pCount_to HS.out HPL.out).mono ?_
  rintro e1 w1 ⟨rfl, hb⟩
  simp only
  have hb' := below_then (show Below w.heap.size w w1 from hb) (show Below w1.heap.size w1 (w1.alloc (.cells #[.int .i64 s0, .int .i64 s1, .int .i64 s2, .int .i64 s3] 31)) from (Below.refl _ _).alloc (Nat.le_refl _) _)
  have HB1 := Lib.hid hb'
  have HX1 := Lib.hid (box_new w1 [.int .i64 s0, .int .i64 s1, .int .i64 s2, .int .i64 s3] 31 _ rfl _ rfl)
  clear hb hb'
  go_wp2_with fail
  refine (pCount_to HT.out (HPR.out.below HB1.out)).mono ?_
  rintro e2 w2 ⟨rfl, hb⟩
  simp only
  have hb' := below_then (show Below (w1.alloc (.cells #[.int .i64 s0, .int .i64 s1, .int .i64 s2, .int .i64 s3] 31)).heap.size (w1.alloc (.cells #[.int .i64 s0, .int .i64 s1, .int .i64 s2, .int .i64 s3] 31)) w2 from hb) (show Below w2.heap.size w2 (w2.alloc (.cells #[.int .i64 t0, .int .i64 t1, .int .i64 t2, .int .i64 t3] 31)) from (Below.refl _ _).alloc (Nat.le_refl _) _)
  have HB2 := Lib.hid (below_then HB1.out hb')
  have HX2 := Lib.hid (HX1.out.below hb')
  have HY2 := Lib.hid (box_new w2 [.int .i64 t0, .int .i64 t1, .int .i64 t2, .int .i64 t3] 31 _ rfl _ rfl)
  clear hb hb'
  go_wp2_with ((with_reducible refine stop_dst 37 ?_ ?_); exact rfl)
  refine Stop.intro ?_
  generalize hV : w2.alloc (.cells #[.int .i64 t0, .int .i64 t1, .int .i64 t2, .int .i64 t3] 31) = V at HB2 HX2 HY2 ⊢
  have hV1 : w1.heap.size < V.heap.size := HX2.out.1
  have hV2 : w2.heap.size < V.heap.size := HY2.out.1
  clear hV
  obtain ⟨zx, rx, lx, sx⟩ : ∃ zs : List NdM, Rows 20 encM V A n zs ∧ zs.length = l.length ∧ ∀ (i : Nat) (m : NdM) (x : Nd), zs[i]? = some m → l[i]? = some x → Shows V m x := HL.out.below HB2.out
  obtain ⟨zy, ry, ly, sy⟩ : ∃ zs : List NdM, Rows 20 encM V B m zs ∧ zs.length = r.length ∧ ∀ (i : Nat) (m : NdM) (x : Nd), zs[i]? = some m → r[i]? = some x → Shows V m x := HR.out.below HB2.out
  have RX := Lib.hid rx
  have RY := Lib.hid ry
  have SX := Lib.hid sx
  have SY := Lib.hid sy
  have hl1 : zx.length = n := rx.1
  have hl2 : zy.length = m := ry.1
  clear rx ry sx sy
  go_wp2_with ((with_reducible refine stop_dst 39 ?_ ?_); exact rfl)
  refine Stop.intro ?_
  have hbU : On V (V.alloc (.cells #[] 28)) := (On.refl V).alloc _
  have hO0 : (V.alloc (.cells #[] 28)).ownsRow V.heap.size 28 20 (.slice (some ⟨V.heap.size, 0, none⟩) 0 0) 0 [] := ⟨rfl, .inr ⟨V.heap.size, 0, #[], rfl, Nat.le_refl _, World.alloc_heap_new V _, Nat.le_refl _, Nat.zero_le _, rfl, rfl⟩⟩
  have hcX := (RX.out.below hbU).cells encM_len (by decide)
  refine wpList_append_cells _ rfl (.tmp 37) (.tmp 38) _ rfl V.heap.size 28 j0 (.agg #[.int .i64 0, .int .i64 0, .int .i64 0, .int .i64 0, .int .i64 0, .int .i64 0, .int .i64 0, .int .i64 0, .int .i64 0, .int .i64 0, .int .i64 0, .int .i64 0, .int .i64 0, .int .i64 0, .int .i64 0, .int .i64 0, .slice none 0 0, .int .i64 0, .int .i64 0, .int .i64 0]) 20 176 Try.underlying22 hj0 hy0 hy1 hy2 rfl (by decide) (.slice (some ⟨V.heap.size, 0, none⟩) 0 0) 0 _ rfl hO0 A n c _ rfl hcX (encMs_one zx) (by unfold maxLen; omega) (by omega) (by simp) ?_
  intro A5 c5 w5 hown5 hg5
  have hb5 : On V w5 := hbU.grown hg5 (by simp) (fun r e => by cases e; exact Nat.le_refl _)
  rw [Nat.zero_add] at hown5
  have hcY := (RY.out.below hb5).cells encM_len (by decide)
  have HO5 := Lib.hid hown5
  have HB5 := Lib.hid hb5
  have hs5 := hb5.size
  clear hO0 hcX hbU hown5 hb5 hg5
  simp only [Nat.zero_add]
  go_wp2_with ((with_reducible refine stop_dst 41 ?_ ?_); exact rfl)
  refine Stop.intro ?_
  refine wpList_append_cells _ rfl (.tmp 39) (.tmp 40) _ rfl V.heap.size 28 j0 (.agg #[.int .i64 0, .int .i64 0, .int .i64 0, .int .i64 0, .int .i64 0, .int .i64 0, .int .i64 0, .int .i64 0, .int .i64 0, .int .i64 0, .int .i64 0, .int .i64 0, .int .i64 0, .int .i64 0, .int .i64 0, .int .i64 0, .slice none 0 0, .int .i64 0, .int .i64 0, .int .i64 0]) 20 176 Try.underlying22 hj0 hy0 hy1 hy2 rfl (by decide) (.slice A5 n c5) n _ rfl HO5.out B m cb _ rfl hcY (encMs_one zy) (by unfold maxLen; omega) (by omega) hs5 ?_
  intro A6 c6 w6 hown6 hg6
  have hblk := owns_block HO5.out
  have hb6 : On V w6 := HB5.out.grown hg6 hs5 (fun r e => hblk r e)
  have hfl : (zx ++ zy).flatMap encM = [] ++ zx.flatMap encM ++ zy.flatMap encM := by simp
  rw [← hfl] at hown6
  have hsee : Sees w6 A6 (n + m) (l ++ r) := ⟨zx ++ zy, ownsRow_rows encM_len (by decide) hown6, by rw [List.length_append, List.length_append, lx, ly], fun i m z e1 e2 => (sees_append lx SX.out SY.out i m z e1 e2).below hb6⟩
  have HP6 := Lib.hid (show PreV (l ++ r) w6 A6 (n + m) from ⟨hsee, by omega⟩)
  have HX6 := Lib.hid (HX2.out.below hb6)
  have HY6 := Lib.hid (HY2.out.below hb6)
  have HB6 := Lib.hid (below_then HB2.out hb6)
  clear hblk hb6 hfl hown6 hg6 hcY hsee
  go_wp2_with fail
  refine (pCount_to HU.out HP6.out).mono ?_
  rintro e3 w7 ⟨rfl, hb⟩
  simp only
  have hX := HX6.out.below hb
  have hY := HY6.out.below hb
  have x0 := hX.2.2 0 _ rfl
  have x1 := hX.2.2 1 _ rfl
  have x2 := hX.2.2 2 _ rfl
  have x3 := hX.2.2 3 _ rfl
  have xl := hX.1
  have y0 := hY.2.2 0 _ rfl
  have y1 := hY.2.2 1 _ rfl
  have y2 := hY.2.2 2 _ rfl
  have y3 := hY.2.2 3 _ rfl
  have yl := hY.1
  have HB7 := Lib.hid (below_then HB6.out hb)
  have hb' : Below w.heap.size w (w7.alloc (.cells #[.int .i64 u0, .int .i64 u1, .int .i64 u2, .int .i64 u3] 31)) := HB7.out.alloc (by have := HB7.out.size; omega) _
  have HB8 := Lib.hid hb'
  clear hb hb' hX hY
  have hz := sum_same 0 0 0 0
  rcases ans_bad HS.out with ⟨rfl, hda, hsa⟩ | ⟨rfl, hs0⟩
  rotate_left
  · injection hs0 with q0 q1 q2 q3
    subst q0 q1 q2 q3
    rcases ans_bad HT.out with ⟨rfl, hdb, htb⟩ | ⟨rfl, ht0⟩
    · clear hdb htb
      go_wp2_with fail
      refine (vawake_any _).mono ?_
      rintro e4 w9 ⟨rfl, hb⟩
      have HB9 := Lib.hid (below_then HB8.out hb)
      clear hb
      go_wp2_with fail
      go_ret
      exact ⟨rfl, HB9.out⟩
    · injection ht0 with q0 q1 q2 q3
      subst q0 q1 q2 q3
      go_wp2_with fail
      refine (vawake_any _).mono ?_
      rintro e4 w9 ⟨rfl, hb⟩
      have HB9 := Lib.hid (below_then HB8.out hb)
      clear hb
      go_wp2_with fail
      go_ret
      exact ⟨rfl, HB9.out⟩
  rcases ans_bad HT.out with ⟨rfl, hdb, htb⟩ | ⟨rfl, ht0⟩
  rotate_left
  · injection ht0 with q0 q1 q2 q3
    subst q0 q1 q2 q3
    clear hda hsa
    go_wp2_with fail
    refine (vawake_any _).mono ?_
    rintro e4 w9 ⟨rfl, hb⟩
    have HB9 := Lib.hid (below_then HB8.out hb)
    clear hb
    go_wp2_with fail
    go_ret
    exact ⟨rfl, HB9.out⟩
  have hdab := hda.append hdb
  have hg0 := doc_sums' hdab
  rw [HU.out] at hg0
  injection hg0 with hu0 hg0
  subst hg0
  have hap := sumB_append hda hdb
  rw [← hu0, ← hsa, ← htb] at hap
  simp only at hap
  injection hap with p0 p1 p2 p3
  have hs2n : s2 = (n : Int) := by
    have e : (sumB l).nodes = (l.length : Int) := by rw [sumB_eq]
    rw [← hsa, hla] at e; exact e
  have ht2n : t2 = (m : Int) := by
    have e : (sumB r).nodes = (r.length : Int) := by rw [sumB_eq]
    rw [← htb, hlb] at e; exact e
  have hs3b : 0 ≤ s3 ∧ s3 ≤ 1099511627777 := by
    have e : (sumB l).heights = cut (sumI highN l) := by rw [sumB_eq]
    rw [← hsa] at e
    have h1 := cut_le (sumI highN l)
    have h2 : 0 ≤ cut (sumI highN l) := cut_pos (sumI_pos fun x hx => high_pos (hda.1 x hx))
    unfold cutN at h1
    simp only at e
    omega
  have ht3b : 0 ≤ t3 ∧ t3 ≤ 1099511627777 := by
    have e : (sumB r).heights = cut (sumI highN r) := by rw [sumB_eq]
    rw [← htb] at e
    have h1 := cut_le (sumI highN r)
    have h2 : 0 ≤ cut (sumI highN r) := cut_pos (sumI_pos fun x hx => high_pos (hdb.1 x hx))
    unfold cutN at h1
    simp only at e
    omega
  obtain ⟨s3a, s3b⟩ := hs3b
  obtain ⟨t3a, t3b⟩ := ht3b
  subst hs2n ht2n
  have he := sum_same u0 u1 u2 u3
  have p1' : IntKind.i64.wrap (s1 + t1) = u1 := p1.symm
  have p0' : max s0 t0 = u0 := p0.symm
  have p2' : (n : Int) + (m : Int) = u2 := p2.symm
  have p3' : min (s3 + t3) 1099511627777 = u3 := p3.symm
  have HDA := Lib.hid hda
  clear hdab hsa htb hu0 p0 p1 p2 p3 hdb hda hz
  go_wp2_with fail
  clear he p0' p1' p2' p3' x0 x1 x2 x3 y0 y1 y2 y3
  go_loopw [12] (fun i wr => ∃ k : Nat, k ≤ n ∧ i = .int .i64 k ∧ On w wr) (fun i _ => n - (intOf i).toNat)
  case atStart => exact ⟨0, Nat.zero_le _, rfl, HB8.out.alloc (by have := HB8.out.size; omega) _⟩
  case round =>
    obtain ⟨k, hk, rfl, hon⟩ := hrel
    have HO := Lib.hid hon
    clear hon
    by_cases hlt : k < n
    rotate_left
    · have hk2 : (n : Int) ≤ (k : Int) := by omega
      go_wp2_with fail
      refine (vawake_any _).mono ?_
      rintro e4 w9 ⟨rfl, hb⟩
      have HB9 := Lib.hid (below_then HO.out hb)
      clear hb
      go_wp2_with fail
      go_ret
      exact ⟨rfl, HB9.out⟩
    have hk2 : (k : Int) < (n : Int) := by omega
    obtain ⟨b1, o1, m1, q1, rfl, hb1, e1, r1, v1⟩ := HL.out.at_ hlt
    obtain ⟨pre, inner, rest, hpl, hpk, hsz, hdi, hdx⟩ := HDA.out.at_ e1
    have hms : m1.size = 1 + (inner.length : Int) := by rw [← hsz]; exact v1.1.2.1.symm
    have hmk : q1.kind = m1.kind := v1.1.1
    have hlen : k + (1 + inner.length) ≤ n := by rw [← hla, hpl, ← hpk]; simp; omega
    have hsi : Sees w (some ⟨b1, o1 + (k + 1) * 20, none⟩) inner.length inner := by
      have h := HL.out.sub (lo := k + 1) (k := inner.length) (by omega)
      rw [hpl, show pre ++ q1 :: (inner ++ rest) = (pre ++ [q1]) ++ (inner ++ rest) by simp, List.drop_left' (by simp; omega), List.take_left' rfl] at h
      exact h
    have hsx : Sees w (some ⟨b1, o1 + k * 20, none⟩) (1 + inner.length) (q1 :: inner) := by
      have h := HL.out.sub (lo := k) (k := 1 + inner.length) (by omega)
      rw [hpl, List.drop_left' hpk, show q1 :: (inner ++ rest) = (q1 :: inner) ++ rest by simp, List.take_left' (by simp; omega)] at h
      exact h
    have G0 := Lib.hid (On.cell (W := w) (a := ⟨b1, o1 + k * 20, none⟩) (v := .int .i64 m1.kind) (r1 0 _ rfl))
    have G1 := Lib.hid (On.cell (W := w) (a := ⟨b1, o1 + k * 20 + 1, none⟩) (v := .int .i64 m1.size) (r1 1 _ rfl))
    rw [hms] at G1
    obtain ⟨hc0, hc1', hc2'⟩ := sumB_cons (hdx.1 q1 (by simp)) hdi hsz
    have HSI := Lib.hid (doc_sums' hdi)
    have HSX := Lib.hid (doc_sums' hdx)
    obtain ⟨⟨i0, i1, i2, i3⟩, hi9⟩ : ∃ q, sumB inner = q := ⟨_, rfl⟩
    obtain ⟨⟨a0, a1, a2, a3⟩, ha9⟩ : ∃ q, sumB (q1 :: inner) = q := ⟨_, rfl⟩
    rw [hi9] at HSI hc0 hc1' hc2'
    rw [ha9] at HSX hc0 hc1' hc2'
    simp only at hc0 hc1' hc2'
    subst hc1'
    have hi2b : 0 ≤ i2 ∧ i2 ≤ 200 := by
      have e : (sumB inner).nodes = (inner.length : Int) := by rw [sumB_eq]
      rw [hi9] at e
      simp only at e
      omega
    have hi0b : 0 ≤ i0 ∧ i0 ≤ 200 := by
      have e : (sumB inner).depth = depTo inner inner.length := by rw [sumB_eq]
      rw [hi9] at e
      simp only at e
      have h1 := depTo_pos inner inner.length
      have h2 := depTo_le inner inner.length
      omega
    obtain ⟨i2a, i2b⟩ := hi2b
    obtain ⟨i0a, i0b⟩ := hi0b
    rw [hmk] at hc0
    obtain ⟨g, hg⟩ : ∃ g, inner.length = g := ⟨_, rfl⟩
    rw [hg] at hsi hsx hlen G1
    have HSI2 := Lib.hid (show ∀ U, On w U → PreV inner U (some ⟨b1, o1 + (k + 1) * 20, none⟩) g from fun U hU => ⟨hsi.on hU, by omega⟩)
    have HSX2 := Lib.hid (show ∀ U, On w U → PreV (q1 :: inner) U (some ⟨b1, o1 + k * 20, none⟩) (1 + g) from fun U hU => ⟨hsx.on hU, by omega⟩)
    have g1 := G1.out _ HO.out
    clear e1 r1 v1 hpl hpk hsz hdi hdx hms hmk hsi hsx hi9 ha9 hg hb1
    have e1 : k + (1 + g) - (k + 1) = g := by omega
    have e2 : k + (1 + g) - k = 1 + g := by omega
    have E1 := Lib.hid e1
    have E2 := Lib.hid e2
    clear e1 e2
    have hkc : k < c := by omega
    have hkc2 : (k : Int) < (c : Int) := by omega
    by_cases hck : k + 1 < c
    · have hck2 : (k : Int) + 1 < (c : Int) := by omega
      go_wp2_with fail
      rw [E1.out]
      refine (pCount_to HSI.out (HSI2.out wr HO.out)).mono ?_
      rintro e4 w9 ⟨rfl, hb⟩
      simp only
      have hb' := below_then (show Below wr.heap.size wr w9 from hb) (show Below w9.heap.size w9 (w9.alloc (.cells #[.int .i64 i0, .int .i64 i1, .int .i64 i2, .int .i64 i3] 31)) from (Below.refl _ _).alloc (Nat.le_refl _) _)
      have HO9 := Lib.hid (HO.out.step hb')
      have HI9 := Lib.hid (box_new w9 [.int .i64 i0, .int .i64 i1, .int .i64 i2, .int .i64 i3] 31 _ rfl _ rfl)
      have g1 := G1.out _ HO9.out
      clear hb hb'
      go_wp2_with fail
      (try rw [E2.out])
      refine (pCount_to HSX.out (HSX2.out _ HO9.out)).mono ?_
      rintro e5 w10 ⟨rfl, hb⟩
      simp only
      have hI := HI9.out.below hb
      have y0 := hI.2.2 0 _ rfl
      have y2 := hI.2.2 2 _ rfl
      have y3 := hI.2.2 3 _ rfl
      have yl := hI.1
      have hb' := below_then (show Below (w9.alloc (.cells #[.int .i64 i0, .int .i64 i1, .int .i64 i2, .int .i64 i3] 31)).heap.size (w9.alloc (.cells #[.int .i64 i0, .int .i64 i1, .int .i64 i2, .int .i64 i3] 31)) w10 from hb) (show Below w10.heap.size w10 (w10.alloc (.cells #[.int .i64 a0, .int .i64 a1, .int .i64 (i2 + 1), .int .i64 a3] 31)) from (Below.refl _ _).alloc (Nat.le_refl _) _)
      have HO10 := Lib.hid (HO9.out.step hb')
      have g0 := G0.out _ HO10.out
      clear hb hb' hI
      by_cases hk1 : m1.kind = 1
      · have hk1b : (m1.kind == 1) = true := by simp [hk1]
        have ha := hc0 hk1
        subst ha
        clear hk1 hc0
        go_wp2_with fail
        go_roundw
        case rel => exact ⟨k + 1, by omega, by go_num, HO10.out⟩
        case measure => simp [intOf]; omega
      · have hk1b : (m1.kind == 1) = false := by simpa using hk1
        clear hk1 hc0
        go_wp2_with fail
        go_roundw
        case rel => exact ⟨k + 1, by omega, by go_num, HO10.out⟩
        case measure => simp [intOf]; omega
    · obtain rfl : c = k + 1 := by omega
      obtain rfl : g = 0 := by omega
      have HSI3 := Lib.hid (show ∀ U (A9 : Option Addr), On w U → PreV inner U A9 0 from fun U A9 hU => by
        have h := (HSI2.out U hU).1.len
        obtain rfl : inner = [] := List.eq_nil_of_length_eq_zero h
        exact ⟨⟨[], Rows.nil _ _, rfl, fun i m x h => by simp at h⟩, by omega⟩)
      go_wp2_with fail
      (try rw [E1.out])
      refine (pCount_to HSI.out (HSI3.out wr _ HO.out)).mono ?_
      rintro e4 w9 ⟨rfl, hb⟩
      simp only
      have hb' := below_then (show Below wr.heap.size wr w9 from hb) (show Below w9.heap.size w9 (w9.alloc (.cells #[.int .i64 i0, .int .i64 i1, .int .i64 i2, .int .i64 i3] 31)) from (Below.refl _ _).alloc (Nat.le_refl _) _)
      have HO9 := Lib.hid (HO.out.step hb')
      have HI9 := Lib.hid (box_new w9 [.int .i64 i0, .int .i64 i1, .int .i64 i2, .int .i64 i3] 31 _ rfl _ rfl)
      have g1 := G1.out _ HO9.out
      clear hb hb'
      go_wp2_with fail
      (try rw [E2.out])
      refine (pCount_to HSX.out (HSX2.out _ HO9.out)).mono ?_
      rintro e5 w10 ⟨rfl, hb⟩
      simp only
      have hI := HI9.out.below hb
      have y0 := hI.2.2 0 _ rfl
      have y2 := hI.2.2 2 _ rfl
      have y3 := hI.2.2 3 _ rfl
      have yl := hI.1
      have hb' := below_then (show Below (w9.alloc (.cells #[.int .i64 i0, .int .i64 i1, .int .i64 i2, .int .i64 i3] 31)).heap.size (w9.alloc (.cells #[.int .i64 i0, .int .i64 i1, .int .i64 i2, .int .i64 i3] 31)) w10 from hb) (show Below w10.heap.size w10 (w10.alloc (.cells #[.int .i64 a0, .int .i64 a1, .int .i64 (i2 + 1), .int .i64 a3] 31)) from (Below.refl _ _).alloc (Nat.le_refl _) _)
      have HO10 := Lib.hid (HO9.out.step hb')
      have g0 := G0.out _ HO10.out
      clear hb hb' hI
      by_cases hk1 : m1.kind = 1
      · have hk1b : (m1.kind == 1) = true := by simp [hk1]
        have ha := hc0 hk1
        subst ha
        clear hk1 hc0
        go_wp2_with fail
        go_roundw
        case rel => exact ⟨k + 1, by omega, by go_num, HO10.out⟩
        case measure => simp [intOf]; omega
      · have hk1b : (m1.kind == 1) = false := by simpa using hk1
        clear hk1 hc0
        go_wp2_with fail
        go_roundw
        case rel => exact ⟨k + 1, by omega, by go_num, HO10.out⟩
        case measure => simp [intOf]; omega
end Go.Proofs.Ytildplbdhnodjaa
