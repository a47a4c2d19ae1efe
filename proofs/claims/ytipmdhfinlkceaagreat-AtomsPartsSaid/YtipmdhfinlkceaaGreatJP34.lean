import Derived.Test.YtipmdhfinlkceaaGreatJP25
import Derived.Test.YtipmdhfinlkceaaGreatJP26
import Derived.Test.YtipmdhfinlkceaaGreatJP27
import Derived.Test.YtipmdhfinlkceaaGreatJP29
/- FlowWalk. -/
set_option linter.unusedVariables false
set_option linter.unusedSimpArgs false
namespace Go.Proofs.YtipmdhfinlkceaaGreat
open Go.RowKit
def bound14 (f : FuncId) (k : Nat) : Value := .func (.func f) #[.pointer (some ⟨k, 0, none⟩)] #[]
def doesL (k : Nat) : List Value := [.nilFunc, bound14 39 k, bound14 40 k, bound14 41 k, bound14 42 k]
section
variable {L : List Nd} {w1 : World} {An Ar : Option Addr} {nn cn nr cr : Nat} {w : World} {s : Gs} {A A2 : Option Addr} {n c m c2 : Nat}
set_option maxHeartbeats 16000000 in
set_option maxRecDepth 100000 in
theorem wwalk14_to {wd : Int} (hd : IsDoc L) (w1d : 1 ≤ wd) (w2d : wd ≤ maxX) (hw60 : ∀ y ∈ L, y.words.length ≤ 2000) (hnn : nn ≤ 10000) (hS : Sees w1 An nn L) (hR : Rows 2 encRm w1 Ar nn (roomsTo L wd nn)) :
    ∀ (d i e : Nat), e ≤ i + d → i ≤ e → Clo L i e → WalkOk w1 An nn cn Ar nn cr L wd i e := by
  intro d
  induction d using Nat.strongRecOn with
  | _ d ih =>
  intro i e hed hie hclo a b ha hb H s A n c A2 m c2 w hG hH hla hlf h
  subst ha hb
  have hlen : L.length = nn := hS.len
  have hen : e ≤ nn := by rw [← hlen]; exact hclo.1
  have HT := Lib.hid h
  have HG := Lib.hid hG
  have HH := Lib.hid hH
  have HLA := Lib.hid hla
  have HLF := Lib.hid hlf
  have HCL := Lib.hid hclo
  have HIH := Lib.hid ih
  have HD := Lib.hid hd
  have HW6 := Lib.hid hw60
  have HS := Lib.hid hS
  have HR := Lib.hid hR
  have HLN := Lib.hid hlen
  have HED := Lib.hid hed
  have HRL := Lib.hid (owns_block_lt h.gs.ams)
  have hkw : w1.heap.size < w.heap.size := h.box.1
  have HBN := Lib.hid (show 0 < nn → ∀ q, An = some q → q.block < w1.heap.size from fun h0 q hq => by
    obtain ⟨b2, o2, m2, x2, e2, hb2, _⟩ := hS.at_ h0
    rw [hq] at e2
    injection e2 with e2
    rw [e2]
    exact hb2)
  clear h hG hH hla hlf hclo ih hd hw60 hS hR hlen hed
  go_enter Tryz.func19, Tryz.ntmps19
  go_wp2_with ((with_reducible refine stop_store 95 (.tmp 6) (.tmp 16) ?_ ?_); exact rfl)
  refine Stop.intro ?_
  refine wpList_store_row rfl 95 (.tmp 6) (.tmp 16) rfl w.heap.size rfl 95 #[.nilFunc, .nilFunc, .nilFunc, .nilFunc, .nilFunc] (doesL w1.heap.size).toArray rfl (Blk.new w 95 [.nilFunc, .nilFunc, .nilFunc, .nilFunc, .nilFunc] _ rfl _ rfl) (by kernel_rfl) rfl (by simp [doesL, bound14, Value.oneCell']) ?_
  intro V hV
  have hbV : On w V := by rw [hV]; exact below_setRow ((Below.refl _ _).alloc (Nat.le_refl _) _) (Nat.le_refl _) _
  have HK := Lib.hid (show Box V w.heap.size (doesL w1.heap.size) by rw [hV]; exact (Blk.row (Blk.new w 95 [.nilFunc, .nilFunc, .nilFunc, .nilFunc, .nilFunc] _ rfl _ rfl) (doesL w1.heap.size) _ rfl).box)
  have HTV := Lib.hid (HT.out.below hbV)
  have HFV := Lib.hid (FrW.of_below (k := w1.heap.size) (r := (Value.slice A n c).ownBlock) hbV)
  have hwV : w.heap.size < V.heap.size := HK.out.1
  clear hV hbV HT
  have HBX := Lib.hid (show ∀ W', FrW w1.heap.size (Value.slice A n c).ownBlock V W' → Box W' w.heap.size (doesL w1.heap.size) from fun W' hF => hF.box HK.out (by omega) (fun e => by have := HRL.out w.heap.size e.symm; omega))
  try simp only [Act.put]
  go_wp2_with fail
  go_loopw [7] (fun iv wr => ∃ (j : Nat) (s1 : Gs) (H1 : Int), iv = .int .i64 (j : Int) ∧ i ≤ j ∧ j ≤ e ∧ Hid (Clo L j e) ∧ Hid (runS L wd s1 (evN L j e) = runS L wd s (evN L i e)) ∧ Hid (GsOk H1 s1 ∧ H1 + sumE L (evN L j e) ≤ maxN) ∧ Hid (s1.ams.length + 2000 * ((evN L j e).length + 1) ≤ 10000000 ∧ s1.fls.length + (evN L j e).length ≤ 10000) ∧ Hid (WkOut w1 An nn cn Ar nn cr V A n c s1 wr)) (fun iv _ => e - (intOf iv).toNat)
  case atStart => exact ⟨i, s, H, rfl, Nat.le_refl _, hie, HCL, Lib.hid rfl, Lib.hid ⟨HG.out, HH.out⟩, Lib.hid ⟨HLA.out, HLF.out⟩, Lib.hid (WkOut.refl HTV.out)⟩
  case round =>
    obtain ⟨j, s1, H1, rfl, hij, hje, HC, HRU, HG1, HL1, HO⟩ := hrel
    by_cases hlt : j < e
    · have hlt2 : (j : Int) < (e : Int) := by omega
      obtain ⟨y, hy, hle⟩ := HC.out.at_ hlt
      have hjn : j < nn := by omega
      have hjn2 : (j : Int) < (nn : Int) := by omega
      have hj0 : (0 : Int) ≤ (j : Int) := by omega
      obtain ⟨A1, n1, c1, A3, m1, c3, hW, hF, hN⟩ := HO.out
      obtain ⟨bn, on_, mm, y', hAn, hbn, hy', hrg, hsh⟩ := (HS.out.below hW.on).at_ hjn
      obtain rfl : y = y' := by rw [hy] at hy'; injection hy'
      have hbk := HBN.out (by omega) _ hAn
      subst hAn
      have hyf := HD.out.1 y (List.mem_of_getElem? hy)
      have hsp : sumE L (evN L j e) = sumE L (ev1 L j y) + sumE L (evN L (nxt j y) e) := by rw [evN_step hlt hy hle, sumE_append]
      have hlp : (evN L j e).length = (ev1 L j y).length + (evN L (nxt j y) e).length := by rw [evN_step hlt hy hle, List.length_append]
      have hpo1 := sumE_pos HD.out.1 (ev1 L j y)
      have hpo2 := sumE_pos HD.out.1 (evN L (nxt j y) e)
      have hg1 := HG1.out.1
      have hg2 := HG1.out.2
      have hl1 := HL1.out.1
      have hl2 := HL1.out.2
      rw [hsp] at hg2
      rw [hlp] at hl1 hl2
      have hnj := (nxt_of HD.out.2.nested hy).1
      have hlj := nxt_lt j y
      have hna := hW.gs.na
      have hnf := hW.gs.nf
      obtain ⟨rb0, rb1, rb2, rb3⟩ := room_bd HD.out.1 w1d w2d j
      have rb4 : (roomP L wd j).2 ≤ maxX := Int.le_trans rb3 w2d
      have hrz : (roomsTo L wd nn)[j]? = some ((roomP L wd j).1, (roomP L wd j).2) := roomsTo_get hjn
      have hok := run_ok HD.out.1 w1d w2d (ev1 L j y) hg1
      have hrl := runS_len2 (w := wd) HW6.out (ev1 L j y) s1
      have hsize : wr.cell? ⟨bn, on_ + j * 20 + 1, none⟩ = some (.int .i64 y.size) := by have h9 := hrg 1 (.int .i64 mm.size) rfl; rw [← hsh.1.2.1] at h9; exact h9
      have HSZ := Lib.hid (show ∀ W', On w1 W' → W'.cell? ⟨bn, on_ + j * 20 + 1, none⟩ = some (.int .i64 y.size) from fun W' hW' => by
        have e1 := Below.cell (show Below w1.heap.size w1 wr from hW.on) (p := ⟨bn, on_ + j * 20 + 1, none⟩) hbk
        rw [hsize] at e1
        exact On.cell e1.symm W' hW')
      have HCO := Lib.hid (show Calls Tryz.prog (if y.kind = 1 then 39 else if y.kind = 2 then 40 else if y.kind = 3 then 41 else 42) #[.pointer (some ⟨w1.heap.size, 0, none⟩), .int .i64 (j : Int)] wr fun e' w' => e' = .returned (.tuple #[]) ∧ WkOut w1 (some ⟨bn, on_, none⟩) nn cn Ar nn cr wr A1 n1 c1 (oneS L wd j y s1) w' by
        by_cases hk1 : y.kind = 1
        · rw [if_pos hk1]
          have hlx : 1 ≤ (ev1 L j y).length := by unfold ev1; rw [if_pos hk1]; simp
          exact wblock14_to HD.out w1d w2d HW6.out hk1 HS.out hy hg1 (by omega) (by omega) (by omega) (HIH.out (d - 1) (by have := HED.out; omega) (j + 1) (nxt j y) (by have := HED.out; omega) (by omega) (Clo.inner HD.out.2.nested hy hk1)) hW
        · have hev : ev1 L j y = [.leaf j] := by unfold ev1; rw [if_neg hk1]
          have hse : sumE L (ev1 L j y) = leafH y := by rw [hev, sumE_cons, sumE_nil, evH_leaf hy]; omega
          have hel : (ev1 L j y).length = 1 := by rw [hev]; rfl
          have hos : oneS L wd j y s1 = leafS (roomP L wd j) j y s1 := oneS_leaf hy hk1
          rw [if_neg hk1, hos]
          unfold leafS
          by_cases hk2 : y.kind = 2
          · rw [if_pos hk2, if_pos hk2]
            have hlh : leafH y = y.line * (y.words.length : Int) := by unfold leafH; rw [if_pos hk2]
            exact wtext14_to hk2 hyf HS.out hy HR.out hrz hjn rb0 rb1 rb2 rb4 hg1 (by omega) (by omega) hW (HW6.out y (List.mem_of_getElem? hy)) (by omega)
          · rw [if_neg hk2, if_neg hk2]
            by_cases hk3 : y.kind = 3
            · rw [if_pos hk3, if_pos hk3]
              exact wbox14_to hk3 hyf HS.out hy HR.out hrz hjn rb0 rb1 rb2 rb4 hg1 (by omega) (by omega) hW
            · have hk4 : y.kind = 4 := by
                rcases hyf with ⟨h9, _⟩ | ⟨h9, _⟩ | ⟨h9, _⟩ | ⟨h9, _⟩
                · exact absurd h9 hk1
                · exact absurd h9 hk2
                · exact absurd h9 hk3
                · exact h9
              rw [if_neg hk3, if_neg hk3, if_pos hk4]
              exact wfloat14_to hk4 hyf HS.out hy HR.out hrz hjn rb0 rb1 rb2 rb4 hg1 (by omega) (by omega) hW (by omega))
      have HRU2 := Lib.hid (show runS L wd (oneS L wd j y s1) (evN L (nxt j y) e) = runS L wd s (evN L i e) by rw [← HRU.out, runS_step hlt hy hle])
      have HG2 := Lib.hid (show GsOk (H1 + sumE L (ev1 L j y)) (oneS L wd j y s1) ∧ H1 + sumE L (ev1 L j y) + sumE L (evN L (nxt j y) e) ≤ maxN from ⟨hok, by omega⟩)
      have HL2 := Lib.hid (show (oneS L wd j y s1).ams.length + 2000 * ((evN L (nxt j y) e).length + 1) ≤ 10000000 ∧ (oneS L wd j y s1).fls.length + (evN L (nxt j y) e).length ≤ 10000 from ⟨by have := hrl.1; unfold oneS; omega, by have := hrl.2.1; unfold oneS; omega⟩)
      have HC2 := Lib.hid (HC.out.next hy)
      have HF := Lib.hid hF
      have HN := Lib.hid hN
      have HNJ := Lib.hid hnj
      have hwj : IntKind.i64.wrap ((j : Int) + y.size) = (j : Int) + y.size := IntWalk.i64_in _ (by omega)
      have hnx : nxt j y ≤ e := hle
      have hnx2 : j < nxt j y := hlj
      have hkd : wr.cell? ⟨bn, on_ + j * 20, none⟩ = some (.int .i64 y.kind) := by have h9 := hrg 0 (.int .i64 mm.kind) rfl; rw [← hsh.1.1] at h9; exact h9
      obtain ⟨⟨_, _, _, k3, _, _, _⟩, _, _⟩ := hW.cells
      obtain ⟨_, _, hbox⟩ := HBX.out wr hF
      have hks : y.kind = 1 ∨ y.kind = 2 ∨ y.kind = 3 ∨ y.kind = 4 := by
        rcases hyf with ⟨h9, _⟩ | ⟨h9, _⟩ | ⟨h9, _⟩ | ⟨h9, _⟩
        · exact .inl h9
        · exact .inr (.inl h9)
        · exact .inr (.inr (.inl h9))
        · exact .inr (.inr (.inr h9))
      clear hy hle hW hF hN hy' hrg hsh hyf hsp hlp hpo1 hpo2 hg1 hg2 hl1 hl2 hnj hlj hna hnf rb0 rb1 rb2 rb3 rb4 hrz hok hrl hsize HO HC HRU HG1 HL1 hbn hbk
      rcases hks with hk | hk | hk | hk
      · have HCK := Lib.hid (by have h9 := HCO.out; rw [hk] at h9; simpa using h9)
        rw [hk] at hkd
        have hf : wr.cell? ⟨w.heap.size, 1, none⟩ = some (.func (.func 39) #[.pointer (some ⟨w1.heap.size, 0, none⟩)] #[]) := hbox 1 _ rfl
        clear HCO hbox
        go_wp2_with fail
        refine HCK.out.mono ?_
        rintro e' w8 ⟨rfl, h8⟩
        obtain ⟨A8, n8, c8, A9, m9, c9, hW8, hF8, hN8⟩ := h8
        have H8 := Lib.hid (show WkOut w1 (some ⟨bn, on_, none⟩) nn cn Ar nn cr V A n c (oneS L wd j y s1) w8 from WkOut.go HF.out HN.out ⟨A8, n8, c8, A9, m9, c9, hW8, hF8, hN8⟩)
        have hsz := HSZ.out w8 hW8.on
        obtain ⟨⟨_, _, _, k38, _, _, _⟩, _, _⟩ := hW8.cells
        clear hF8 hN8 hW8 HCK hkd hf k3
        go_wp2_with fail
        go_roundw
        case rel => exact ⟨nxt j y, oneS L wd j y s1, H1 + sumE L (ev1 L j y), by rw [HNJ.out], by omega, hnx, HC2, HRU2, HG2, HL2, H8⟩
        case measure => have := HNJ.out; simp [intOf] <;> omega
      · have HCK := Lib.hid (by have h9 := HCO.out; rw [hk] at h9; simpa using h9)
        rw [hk] at hkd
        have hf : wr.cell? ⟨w.heap.size, 2, none⟩ = some (.func (.func 40) #[.pointer (some ⟨w1.heap.size, 0, none⟩)] #[]) := hbox 2 _ rfl
        clear HCO hbox
        go_wp2_with fail
        refine HCK.out.mono ?_
        rintro e' w8 ⟨rfl, h8⟩
        obtain ⟨A8, n8, c8, A9, m9, c9, hW8, hF8, hN8⟩ := h8
        have H8 := Lib.hid (show WkOut w1 (some ⟨bn, on_, none⟩) nn cn Ar nn cr V A n c (oneS L wd j y s1) w8 from WkOut.go HF.out HN.out ⟨A8, n8, c8, A9, m9, c9, hW8, hF8, hN8⟩)
        have hsz := HSZ.out w8 hW8.on
        obtain ⟨⟨_, _, _, k38, _, _, _⟩, _, _⟩ := hW8.cells
        clear hF8 hN8 hW8 HCK hkd hf k3
        go_wp2_with fail
        go_roundw
        case rel => exact ⟨nxt j y, oneS L wd j y s1, H1 + sumE L (ev1 L j y), by rw [HNJ.out], by omega, hnx, HC2, HRU2, HG2, HL2, H8⟩
        case measure => have := HNJ.out; simp [intOf] <;> omega
      · have HCK := Lib.hid (by have h9 := HCO.out; rw [hk] at h9; simpa using h9)
        rw [hk] at hkd
        have hf : wr.cell? ⟨w.heap.size, 3, none⟩ = some (.func (.func 41) #[.pointer (some ⟨w1.heap.size, 0, none⟩)] #[]) := hbox 3 _ rfl
        clear HCO hbox
        go_wp2_with fail
        refine HCK.out.mono ?_
        rintro e' w8 ⟨rfl, h8⟩
        obtain ⟨A8, n8, c8, A9, m9, c9, hW8, hF8, hN8⟩ := h8
        have H8 := Lib.hid (show WkOut w1 (some ⟨bn, on_, none⟩) nn cn Ar nn cr V A n c (oneS L wd j y s1) w8 from WkOut.go HF.out HN.out ⟨A8, n8, c8, A9, m9, c9, hW8, hF8, hN8⟩)
        have hsz := HSZ.out w8 hW8.on
        obtain ⟨⟨_, _, _, k38, _, _, _⟩, _, _⟩ := hW8.cells
        clear hF8 hN8 hW8 HCK hkd hf k3
        go_wp2_with fail
        go_roundw
        case rel => exact ⟨nxt j y, oneS L wd j y s1, H1 + sumE L (ev1 L j y), by rw [HNJ.out], by omega, hnx, HC2, HRU2, HG2, HL2, H8⟩
        case measure => have := HNJ.out; simp [intOf] <;> omega
      · have HCK := Lib.hid (by have h9 := HCO.out; rw [hk] at h9; simpa using h9)
        rw [hk] at hkd
        have hf : wr.cell? ⟨w.heap.size, 4, none⟩ = some (.func (.func 42) #[.pointer (some ⟨w1.heap.size, 0, none⟩)] #[]) := hbox 4 _ rfl
        clear HCO hbox
        go_wp2_with fail
        refine HCK.out.mono ?_
        rintro e' w8 ⟨rfl, h8⟩
        obtain ⟨A8, n8, c8, A9, m9, c9, hW8, hF8, hN8⟩ := h8
        have H8 := Lib.hid (show WkOut w1 (some ⟨bn, on_, none⟩) nn cn Ar nn cr V A n c (oneS L wd j y s1) w8 from WkOut.go HF.out HN.out ⟨A8, n8, c8, A9, m9, c9, hW8, hF8, hN8⟩)
        have hsz := HSZ.out w8 hW8.on
        obtain ⟨⟨_, _, _, k38, _, _, _⟩, _, _⟩ := hW8.cells
        clear hF8 hN8 hW8 HCK hkd hf k3
        go_wp2_with fail
        go_roundw
        case rel => exact ⟨nxt j y, oneS L wd j y s1, H1 + sumE L (ev1 L j y), by rw [HNJ.out], by omega, hnx, HC2, HRU2, HG2, HL2, H8⟩
        case measure => have := HNJ.out; simp [intOf] <;> omega
    · have hje2 : j = e := by omega
      subst hje2
      have hge : (j : Int) ≤ (j : Int) := Int.le_refl _
      have HD2 := Lib.hid (show WkOut w1 An nn cn Ar nn cr w A n c (runS L wd s (evN L i j)) wr by rw [← HRU.out, runS_end (Nat.le_refl _)]; exact WkOut.go HFV.out (NewRow.refl _ _) HO.out)
      clear HO HRU
      go_wp2_with fail
      go_end0
      exact ⟨rfl, HD2.out⟩
end
end Go.Proofs.YtipmdhfinlkceaaGreat
