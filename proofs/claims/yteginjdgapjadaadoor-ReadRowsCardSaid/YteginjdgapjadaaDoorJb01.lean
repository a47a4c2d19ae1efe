import Derived.Test.YteginjdgapjadaaDoorJb00
import Derived.Test.YteginjdgapjadaaDoorJa01
import Derived.Test.YteginjdgapjadaaDoorJa25
import Derived.Test.YteginjdgapjadaaDoorJa16
/- Stage 5's laws: a text's numbers; any node that fits; rows within rows. (Written by program: tools/drafts/genfits.py.) -/
namespace Go.Proofs.YteginjdgapjadaaDoor
open Go.RowKit
set_option linter.unusedVariables false
set_option linter.unusedSimpArgs false
set_option maxRecDepth 100000 in
set_option maxHeartbeats 4000000 in
theorem fits_text (size line space : Int) (A : Option Addr) (n c : Nat) (ws : List Int) (w : World) (hI : Ints w A n ws) (hn : 1 ≤ n) (hw : ∀ z ∈ ws, okN z 1 maxN) (h1 : 1 ≤ line) (h2 : line ≤ 1099511627776) (h3 : 0 ≤ space) (h4 : space ≤ 1099511627776) : Calls Tryd.prog 16 #[.agg #[.int .i64 2, .int .i64 size, .int .i64 0, .int .i64 0, .int .i64 0, .int .i64 0, .int .i64 0, .int .i64 0, .int .i64 0, .int .i64 0, .int .i64 0, .int .i64 0, .int .i64 0, .int .i64 0, .int .i64 line, .int .i64 space, .slice A n c, .int .i64 0, .int .i64 0, .int .i64 0]] w fun e w' => e = .returned (.bool true) ∧ Below w.heap.size w w' := by
  have hnb := hI.2.1
  have hwl := hI.1
  have HI := Lib.hid (hI.below ((Below.refl _ w).alloc (Nat.le_refl _) (.cells #[.int .i64 2, .int .i64 size, .int .i64 0, .int .i64 0, .int .i64 0, .int .i64 0, .int .i64 0, .int .i64 0, .int .i64 0, .int .i64 0, .int .i64 0, .int .i64 0, .int .i64 0, .int .i64 0, .int .i64 line, .int .i64 space, .slice A n c, .int .i64 0, .int .i64 0, .int .i64 0] 39)) rfl)
  have HW := Lib.hid hw
  clear hI hw
  go_enter Tryd.func16, Tryd.ntmps16
  go_wp2_with fail
  go_loop [4] (fun i => ∃ k : Nat, k ≤ n ∧ i = .int .i64 k) (fun i => n - (intOf i).toNat)
  case atStart => exact ⟨0, by omega, rfl⟩
  case round =>
    obtain ⟨k, hk, rfl⟩ := hrel
    by_cases hlt : k < n
    · obtain ⟨b1, o1, rfl, hc1⟩ := HI.out.at_ hlt
      have hk2 : (k : Int) < (n : Int) := by omega
      have hz := HW.out (ws[k]?.getD 0) (by rw [List.getElem?_eq_getElem (by omega)]; simp)
      generalize ws[k]?.getD 0 = u at hc1 hz
      obtain ⟨z1, z2⟩ := hz
      unfold maxN at z2
      go_wp2_with (go_at_call 32; (with_reducible refine (between_true (by omega) (by omega) _).mono ?_); rintro e w' ⟨rfl, rfl⟩)
      go_round
      case rel => exact ⟨k + 1, by omega, by go_num⟩
      case measure => simp [intOf]; omega
    · have hk2 : (n : Int) ≤ (k : Int) := by omega
      have hn2 : (0 : Int) < (n : Int) := by omega
      go_wp2_with (go_at_call 32; (with_reducible refine (between_true (by omega) (by omega) _).mono ?_); rintro e w' ⟨rfl, rfl⟩)
      go_ret
      exact ⟨rfl, by go_grown⟩
/-- a node that fits. -/
theorem fits_true (m : NdM) (x : Nd) (w : World) (hs : Shows w m x) (hf : x.fits) : Calls Tryd.prog 16 #[.agg (encM m).toArray] w fun e w' => e = .returned (.bool true) ∧ Below w.heap.size w w' := by
  obtain ⟨⟨e1, e2, e3, e4, e5, e6, e7, e8⟩, hi⟩ := hs
  have hl := hi.1
  obtain ⟨k, size, s, line, space, A, n, c, side, x1, y1⟩ := m
  simp only at e1 e2 e3 e4 e5 e6 e7 e8 hi hl
  rcases hf with ⟨f1, f2, f3, f4, f5, f6, f7, f8⟩ | ⟨f1, f2, f3, f4, f5, f6, f7, f8, f9⟩ | ⟨f1, f2, f3, f4, f5, f6, f7, f8⟩ | ⟨f1, f2, f3, f4, f5, f6, f7, f8⟩
  · rw [f5] at hl
    obtain rfl : n = 0 := by simpa using hl.symm
    rw [← e1, ← e4, ← e5, ← e6, ← e7, ← e8, f1, f3, f4, f6, f7, f8]
    exact fits_block size s A c w (e3 ▸ f2)
  · have hn : 1 ≤ n := by
      rw [← hl]
      exact List.length_pos_iff.2 f5
    rw [← e1, ← e3, ← e6, ← e7, ← e8, f1, f2, f7, f8, f9]
    exact fits_text size line space A n c x.words w hi hn f6 (e4 ▸ f3.1) (e4 ▸ f3.2) (e5 ▸ f4.1) (e5 ▸ f4.2)
  · rw [f5] at hl
    obtain rfl : n = 0 := by simpa using hl.symm
    rw [← e1, ← e3, ← e4, ← e5, ← e6, f1, f2, f3, f4, f8]
    exact fits_mono size x1 y1 A c w (e7 ▸ f6.1) (e7 ▸ f6.2) (e8 ▸ f7.1) (e8 ▸ f7.2)
  · rw [f5] at hl
    obtain rfl : n = 0 := by simpa using hl.symm
    rw [← e1, ← e3, ← e4, ← e5, f1, f2, f3, f4]
    exact fits_float size x1 y1 side A c w (e7 ▸ f6.1) (e7 ▸ f6.2) (e8 ▸ f7.1) (e8 ▸ f7.2) (e6 ▸ f8.1) (e6 ▸ f8.2)
end Go.Proofs.YteginjdgapjadaaDoor
/- The walk of the law ReadRows. (Written by program: tools/drafts/genrows5.py.) -/
namespace Go.Proofs.YteginjdgapjadaaDoor
open Go.RowKit
set_option linter.unusedVariables false
set_option linter.unusedSimpArgs false
/-- seg lies in l from k on. -/
def SegAt (l : List Nd) (k : Nat) (seg : List Nd) : Prop := ∃ pre post, l = pre ++ (seg ++ post) ∧ pre.length = k
theorem SegAt.head {l : List Nd} {k : Nat} {x : Nd} {seg : List Nd} (h : SegAt l k (x :: seg)) : l[k]? = some x := by
  obtain ⟨pre, post, rfl, rfl⟩ := h
  simp
theorem SegAt.inner {l : List Nd} {k : Nat} {x : Nd} {a b : List Nd} (h : SegAt l k (x :: (a ++ b))) : SegAt l (k + 1) a := by
  obtain ⟨pre, post, rfl, rfl⟩ := h
  exact ⟨pre ++ [x], b ++ post, by simp, by simp⟩
theorem SegAt.rest {l : List Nd} {k : Nat} {x : Nd} {a b : List Nd} (h : SegAt l k (x :: (a ++ b))) : SegAt l (k + (1 + a.length)) b := by
  obtain ⟨pre, post, rfl, rfl⟩ := h
  exact ⟨pre ++ x :: a, post, by simp, by simp; omega⟩
theorem SegAt.len {l : List Nd} {k : Nat} {seg : List Nd} (h : SegAt l k seg) : k + seg.length ≤ l.length := by
  obtain ⟨pre, post, rfl, rfl⟩ := h
  simp
def ROk (w : World) (e : Ending) (w' : World) : Prop := e = .returned (.bool true) ∧ On w w'
set_option maxRecDepth 100000 in
set_option maxHeartbeats 4000000 in
theorem rrows_step (l : List Nd) (A : Option Addr) (n c : Nat) (m : Nat) (seg : List Nd) (k0 : Nat) (w : World) (hm : seg.length ≤ m) (hF : Forest seg) (hS : SegAt l k0 seg) (hl : Sees w A n l)
    (ih : ∀ (seg : List Nd) (k : Nat) (w : World), seg.length < m → Forest seg → SegAt l k seg → Sees w A n l → Calls Tryd.prog 17 #[.slice A n c, .int .i64 (k : Int), .int .i64 ((k + seg.length : Nat) : Int)] w (ROk w)) :
    Calls Tryd.prog 17 #[.slice A n c, .int .i64 (k0 : Int), .int .i64 ((k0 + seg.length : Nat) : Int)] w (ROk w) := by
    have IH := Lib.hid ih
    clear ih
    have hln := hl.len
    have hbd := hl.bound
    have HL := Lib.hid hl
    have HF := Lib.hid hF
    have HS := Lib.hid hS
    have hsl := hS.len
    obtain ⟨E, hE⟩ : ∃ E, k0 + seg.length = E := ⟨_, rfl⟩
    rw [hE]
    clear hl hF hS
    go_enter Tryd.func17, Tryd.ntmps17
    go_wp2_with fail
    go_loopw [1] (fun i wr => ∃ (k : Nat) (rest : List Nd), i = .int .i64 k ∧ k + rest.length = E ∧ rest.length ≤ m ∧ Forest rest ∧ SegAt l k rest ∧ On w wr) (fun i _ => E - (intOf i).toNat)
    case atStart => exact ⟨k0, seg, rfl, hE, hm, HF.out, HS.out, On.refl w⟩
    case round =>
      clear HF HS
      obtain ⟨k, rest, rfl, hke, hrm, hF, hS, hon⟩ := hrel
      have HO := Lib.hid hon
      have hsk := hS.len
      clear hon
      cases hF with
      | nil =>
        have h1 : (E : Int) ≤ (k : Int) := by simp at hke; omega
        clear hS
        go_wp2_with fail
        go_ret
        exact ⟨rfl, HO.out⟩
      | @cons x inner rest' hsz hki hFi hFr =>
        have hkl := hS.head
        have HSi := Lib.hid hS.inner
        have HSr := Lib.hid hS.rest
        have HFi := Lib.hid hFi
        have HFr := Lib.hid hFr
        have hlen : k + 1 + (inner.length + rest'.length) = E := by simp at hke; omega
        have him : inner.length + rest'.length < m := by simp at hrm; omega
        have hlt : k < n := by simp at hsk; omega
        have hEn : E ≤ n := by simp at hsk; omega
        obtain ⟨b1, o1, m1, x1, rfl, hb1, e1, r1, s1⟩ := (HL.out.on HO.out).at_ hlt
        rw [hkl] at e1
        injection e1 with e1
        subst e1
        have hk2 : (k : Int) < (E : Int) := by omega
        have hk3 : (k : Int) < (n : Int) := by omega
        obtain ⟨hkd, hsd⟩ : x.kind = m1.kind ∧ x.size = m1.size := ⟨s1.1.1, s1.1.2.1⟩
        have R1 := Lib.hid (range_on r1)
        have hin : m1.kind ≠ 1 → inner.length = 0 := fun h => by rw [hki (by rw [hkd]; exact h)]; rfl
        rw [hsd] at hsz
        clear hS hkl r1 s1 hki hFi hFr hkd hsd hke hrm hsk
        go_wp2_with (first | ((with_reducible refine stop_load 39 (.tmp 13) ?_ ?_); exact rfl; refine Stop.intro ?_; refine wpList_load_mid rfl 39 (.tmp 13) rfl b1 (o1 + k * 20) rfl (encM m1) _ (R1.out wr (On.refl wr)) Tryd.underlying39 rfl (by kernel_rfl) ?_) | ((with_reducible refine stop_store 39 (.tmp 7) (.tmp 14) ?_ ?_); exact rfl))
        refine Stop.intro ?_
        refine wpList_store_row rfl 39 (.tmp 7) (.tmp 14) rfl wr.heap.size rfl 39 #[.int .i64 0, .int .i64 0, .int .i64 0, .int .i64 0, .int .i64 0, .int .i64 0, .int .i64 0, .int .i64 0, .int .i64 0, .int .i64 0, .int .i64 0, .int .i64 0, .int .i64 0, .int .i64 0, .int .i64 0, .int .i64 0, .slice none 0 0, .int .i64 0, .int .i64 0, .int .i64 0] (encM m1).toArray rfl (Blk.new wr 39 [.int .i64 0, .int .i64 0, .int .i64 0, .int .i64 0, .int .i64 0, .int .i64 0, .int .i64 0, .int .i64 0, .int .i64 0, .int .i64 0, .int .i64 0, .int .i64 0, .int .i64 0, .int .i64 0, .int .i64 0, .int .i64 0, .slice none 0 0, .int .i64 0, .int .i64 0, .int .i64 0] _ rfl _ rfl) (by kernel_rfl) rfl (encM_all' m1) ?_
        intro V hV
        have hbV : On wr V := by rw [hV]; exact below_setRow ((Below.refl _ _).alloc (Nat.le_refl _) _) (Nat.le_refl _) _
        have hK := show Blk V wr.heap.size 39 (encM m1) by rw [hV]; exact Blk.row (Blk.new wr 39 [.int .i64 0, .int .i64 0, .int .i64 0, .int .i64 0, .int .i64 0, .int .i64 0, .int .i64 0, .int .i64 0, .int .i64 0, .int .i64 0, .int .i64 0, .int .i64 0, .int .i64 0, .int .i64 0, .int .i64 0, .int .i64 0, .slice none 0 0, .int .i64 0, .int .i64 0, .int .i64 0] _ rfl _ rfl) _ _ rfl
        have c0 := hK.box.2.2 0 _ rfl
        have c1' := hK.box.2.2 1 _ rfl
        have HK := Lib.hid hK
        have HBV := Lib.hid (below_then HO.out hbV)
        have hlt2 : wr.heap.size < V.heap.size := hK.box.1
        clear hV hbV hK
        obtain ⟨z, hz⟩ : ∃ z, m1.size = z := ⟨_, rfl⟩
        obtain ⟨q, hq⟩ : ∃ q, m1.kind = q := ⟨_, rfl⟩
        rw [hz] at c1' hsz
        rw [hq] at c0 hin
        clear hz hq
        obtain ⟨g, hg⟩ : ∃ g, inner.length = g := ⟨_, rfl⟩
        rw [hg] at hsz hlen him hin
        have HG := Lib.hid hg
        clear hg
        subst hsz
        have z1 : (1 : Int) ≤ 1 + (g : Int) := by omega
        have z2 : 1 + (g : Int) ≤ (E : Int) - (k : Int) := by omega
        have z3 : 1 + (g : Int) ≤ 9223372036854775807 := by omega
        have hca := fun (U : World) (hU : On w U) => IH.out inner (k + 1) U (by rw [HG.out]; omega) HFi.out HSi.out (HL.out.on hU)
        rw [HG.out] at hca
        have HCA := Lib.hid hca
        clear hca
        have a1 : ((k + 1 : Nat) : Int) = (k : Int) + 1 := by omega
        have a2 : ((k + 1 + g : Nat) : Int) = (k : Int) + (1 + (g : Int)) := by omega
        rw [a1, a2] at HCA
        by_cases hq1 : q = 1
        · have hqb : (q != 1) = false := by simp [hq1]
          go_wp2_with fail
          refine (HCA.out V HBV.out).mono ?_
          rintro e w5 ⟨rfl, hb5⟩
          have c15 : w5.cell? ⟨wr.heap.size, 1, none⟩ = some (.int .i64 (1 + (g : Int))) := (Below.cell (show Below V.heap.size V w5 from hb5) (p := ⟨wr.heap.size, 1, none⟩) hlt2).trans c1'
          have HB5 := Lib.hid (below_then HBV.out hb5)
          clear hb5 c0 c1' a1 a2 hin
          go_wp2_with fail
          go_roundw
          case rel => exact ⟨k + (1 + g), rest', by rw [show (k : Int) + (1 + (g : Int)) = ((k + (1 + g) : Nat) : Int) by omega], by omega, by omega, HFr.out, by have := HSr.out; rw [HG.out] at this; exact this, HB5.out⟩
          case measure => simp [intOf]; omega
        · have hqb : (q != 1) = true := by simp [hq1]
          obtain rfl : g = 0 := hin hq1
          have c1'' : V.cell? ⟨wr.heap.size, 1, none⟩ = some (.int .i64 1) := c1'
          have HCB := Lib.hid (fun (U : World) (hU : On w U) => (show Calls Tryd.prog 17 #[.slice (some ⟨b1, o1, none⟩) n c, .int .i64 ((k : Int) + 1), .int .i64 ((k : Int) + 1)] U (ROk U) by
            have h := HCA.out U hU
            rw [show (k : Int) + (1 + ((0 : Nat) : Int)) = (k : Int) + 1 by omega] at h
            exact h))
          have y2 : (1 : Int) ≤ (E : Int) - (k : Int) := by omega
          have hmeas : k + 1 ≤ E := by omega
          clear HCA c1' z1 z2 z3 a1 a2 hin
          go_wp2_with fail
          refine (HCB.out V HBV.out).mono ?_
          rintro e w5 ⟨rfl, hb5⟩
          have c15 : w5.cell? ⟨wr.heap.size, 1, none⟩ = some (.int .i64 1) := (Below.cell (show Below V.heap.size V w5 from hb5) (p := ⟨wr.heap.size, 1, none⟩) hlt2).trans c1''
          have HB5 := Lib.hid (below_then HBV.out hb5)
          clear hb5 c0 c1''
          go_wp2_with fail
          go_roundw
          case rel => exact ⟨k + 1, rest', by go_num, by omega, by omega, HFr.out, by have := HSr.out; rw [HG.out] at this; exact this, HB5.out⟩
          case measure => simp [intOf]; omega
theorem rrows_any (l : List Nd) (A : Option Addr) (n c : Nat) (m : Nat) : ∀ (seg : List Nd) (k : Nat) (w : World), seg.length = m → Forest seg → SegAt l k seg → Sees w A n l →
    Calls Tryd.prog 17 #[.slice A n c, .int .i64 (k : Int), .int .i64 ((k + seg.length : Nat) : Int)] w (ROk w) := by
  induction m using Nat.strongRecOn with
  | _ m ih => exact fun seg k w hm hF hS hl => rrows_step l A n c m seg k w (by omega) hF hS hl (fun seg' k' w' h1 h2 h3 h4 => ih _ h1 seg' k' w' rfl h2 h3 h4)
end Go.Proofs.YteginjdgapjadaaDoor
/- The walk of the law ReadRows. (Written by program: tools/drafts/genrows5.py.) -/
namespace Go.Proofs.YteginjdgapjadaaDoor
open Go.RowKit
set_option linter.unusedVariables false
set_option linter.unusedSimpArgs false
theorem rrows_all {l : List Nd} {A : Option Addr} {n c : Nat} {w : World} (hF : Forest l) (hl : Sees w A n l) : Calls Tryd.prog 17 #[.slice A n c, .int .i64 0, .int .i64 (n : Int)] w (ROk w) := by
  have h := rrows_any l A n c _ l 0 w rfl hF ⟨[], [], by simp, rfl⟩ hl
  rw [hl.len, Nat.zero_add] at h
  exact h
theorem doc_fits {s : ByteArray} {x : List Nd} (h : ReadB s (some x, 0)) : Forest x ∧ ∀ y ∈ x, y.fits := by
  obtain ⟨o, q, h1, h2⟩ := h.doc
  exact ⟨h2.forest .nil _ _ rfl, h2.fits (fun y hy => by cases hy) _ _ rfl⟩
theorem doc_place {s : ByteArray} {k : Nat} (h : ReadB s (none, k)) : k ≤ s.size := by
  rcases h.place with h1 | ⟨p, h1, rfl⟩
  · exact h1
  · exact Nat.le_of_lt (lexF_none _ _ _ _ _ h1)
theorem headed_extract (s : ByteArray) (k : Nat) (hk : k ≤ s.size) : Headed (s.extract 0 k) s ∧ (s.extract 0 k).size = k := by
  have hz : (s.extract 0 k).size = k := by rw [ByteArray.size_extract]; omega
  exact ⟨⟨by rw [hz]; exact hk, fun i hi => by rw [hz] at hi; have := bAt_extract s 0 k i hk (by omega); rw [Nat.zero_add] at this; exact this.symm⟩, hz⟩
set_option maxRecDepth 100000 in
set_option maxHeartbeats 4000000 in
theorem readrows_law (s : ByteArray) (hmax : s.size ≤ 9223372036854775807) (w : World) (hT : Tabs w) : Calls Tryd.prog 5 #[.string s] w fun e w' => e = .returned (.bool true) ∧ Below w.heap.size w w' := by
  by_cases hbig : 3000 < s.size
  · go_enter Tryd.func5, Tryd.ntmps5
    go_wp2_with (go_at_call 7; refine (rawake_any _ hT).mono ?_; rintro e w' ⟨rfl, hbw⟩)
    go_ret
    exact ⟨rfl, hbw⟩
  have hs : s.size ≤ 100000 := by omega
  have HT := Lib.hid hT
  clear hT
  go_enter Tryd.func5, Tryd.ntmps5
  go_wp2_with fail
  refine (readof_any s _ HT.out hs).mono ?_
  rintro e w1 (⟨x, A1, n1, c1, hr, rfl, hN, hb1⟩ | ⟨k, hr, rfl, hb1⟩)
  · have HF := Lib.hid (doc_fits hr)
    have HX := Lib.hid hN.sees
    have HB1 := Lib.hid hb1
    have hxl := hN.sees.len
    have hxb := hN.sees.bound
    clear hr hN hb1
    go_wp2_with fail
    go_loopw [12] (fun i wr => ∃ k : Nat, k ≤ n1 ∧ i = .int .i64 k ∧ On w1 wr) (fun i _ => n1 - (intOf i).toNat)
    case atStart => exact ⟨0, by omega, rfl, On.refl w1⟩
    case round =>
      obtain ⟨k, hk, rfl, hon⟩ := hrel
      have HO := Lib.hid hon
      clear hon
      by_cases hlt : k < n1
      · obtain ⟨b1, o1, m1, y1, rfl, hb1, e1, r1, s1⟩ := (HX.out.on HO.out).at_ hlt
        have hk2 : (k : Int) < (n1 : Int) := by omega
        have R1 := Lib.hid r1
        have S1 := Lib.hid s1
        have HY := Lib.hid (HF.out.2 y1 (List.mem_of_getElem? e1))
        clear r1 s1 e1
        go_wp2_with ((with_reducible refine stop_load 39 (.tmp 77) ?_ ?_); exact rfl; refine Stop.intro ?_; refine wpList_load_mid rfl 39 (.tmp 77) rfl b1 (o1 + k * 20) rfl (encM m1) _ (R1.out) Tryd.underlying39 rfl (by kernel_rfl) ?_)
        refine (fits_true m1 y1 _ S1.out HY.out).mono ?_
        rintro e w5 ⟨rfl, hb5⟩
        have HO5 := Lib.hid (below_then HO.out hb5)
        clear hb5
        go_wp2_with fail
        go_roundw
        case rel => exact ⟨k + 1, by omega, by go_num, HO5.out⟩
        case measure => simp [intOf]; omega
      · have hk2 : (n1 : Int) ≤ (k : Int) := by omega
        have HBX := Lib.hid (below_then HB1.out HO.out)
        go_wp2_with fail
        refine (rrows_all HF.out.1 (HX.out.on HO.out)).mono ?_
        rintro e w5 ⟨rfl, hb5⟩
        have HBX := Lib.hid (below_then HBX.out hb5)
        clear hb5
        go_wp2_with (go_at_call 7; refine (rawake_any _ (HT.out.below HBX.out)).mono ?_; rintro e w6 ⟨rfl, hb6⟩)
        go_ret
        exact ⟨rfl, below_then HBX.out hb6⟩
  · have hkl := doc_place hr
    have HR := Lib.hid hr
    have HB1 := Lib.hid hb1
    clear hr hb1
    obtain ⟨hh, hz⟩ := headed_extract s k hkl
    obtain ⟨t, htt⟩ : ∃ t, s.extract 0 k = t := ⟨_, rfl⟩
    rw [htt] at hh hz
    have HH := Lib.hid hh
    have HZ := Lib.hid hz
    have hts : t.size ≤ 100000 := by omega
    have hk1 : (0 : Int) ≤ (k : Int) := by omega
    have hk2 : (k : Int) ≤ (s.size : Int) := by omega
    clear hh hz
    go_wp2_with fail
    refine (lexof_any s _ (HT.out.below HB1.out) hs).mono ?_
    rintro e w2 (⟨toks, A, n, c, hl, rfl, hR, _, hb2⟩ | ⟨k', hl, rfl, _, hb2⟩)
    · have HBX := Lib.hid (below_then HB1.out hb2)
      obtain ⟨r, hr1, hr2⟩ := HR.out.cut hl HH.out HZ.out
      have HR1 := Lib.hid hr1
      have HR2 := Lib.hid hr2
      clear hb2 hl hR hr1 hr2
      go_wp2_with fail
      refine (readof_any t _ (HT.out.below HBX.out) hts).mono ?_
      rintro e w3 (⟨x, A1, n1, c1, hr, rfl, hN, hb3⟩ | ⟨k3, hr, rfl, hb3⟩)
      · have HBX := Lib.hid (below_then HBX.out hb3)
        clear hr hN hb3
        go_wp2_with (go_at_call 7; refine (rawake_any _ (HT.out.below HBX.out)).mono ?_; rintro e w6 ⟨rfl, hb6⟩)
        go_ret
        exact ⟨rfl, below_then HBX.out hb6⟩
      · have hkk : k3 = k := by
          have h1 := HR1.out.det hr
          rcases HR2.out with h2 | h2
          · rw [h1] at h2; cases h2
          · rw [h2] at h1; injection h1 with _ h1; exact h1.symm
        subst hkk
        have HBX := Lib.hid (below_then HBX.out hb3)
        clear hr hb3
        go_wp2_with (go_at_call 7; refine (rawake_any _ (HT.out.below HBX.out)).mono ?_; rintro e w6 ⟨rfl, hb6⟩)
        go_ret
        exact ⟨rfl, below_then HBX.out hb6⟩
    · have HBX := Lib.hid (below_then HB1.out hb2)
      clear hb2 hl
      go_wp2_with (go_at_call 7; refine (rawake_any _ (HT.out.below HBX.out)).mono ?_; rintro e w6 ⟨rfl, hb6⟩)
      go_ret
      exact ⟨rfl, below_then HBX.out hb6⟩
end Go.Proofs.YteginjdgapjadaaDoor
