import Derived.Test.YtipmdhfinlkceaaJW16
import Derived.Test.YtipmdhfinlkceaaJW03
import Derived.Test.YtipmdhfinlkceaaJW01
import Derived.Test.YtipmdhfinlkceaaJW00
import Derived.BigQuiet
/- ValidRefCnt. -/
set_option linter.unusedVariables false
set_option linter.unusedSimpArgs false
namespace Go.Proofs.Ytipmdhfinlkceaa
open Go.RowKit
theorem open_len {l : List Nd} {j : Nat} {x : Nd} (hx : l[j]? = some x) (z : Int) : (opnV l (j + 1) z).length = (opnV l j z).length + (if x.kind = 1 ∧ z < j + x.size then 1 else 0) := by
  rw [opnV_succ, List.length_append, endOf_at hx]
  by_cases hk : x.kind = 1
  · by_cases hz : z < j + x.size
    · rw [if_pos hk, if_pos ⟨hk, hz⟩, List.filter_cons_of_pos (by simpa using hz)]; rfl
    · rw [if_pos hk, if_neg (fun e => hz e.2), List.filter_cons_of_neg (by simpa using hz)]; rfl
  · rw [if_neg hk, if_neg (fun e => hk e.1)]; rfl
theorem open_le (l : List Nd) (j : Nat) (z : Int) : (opnV l j z).length ≤ j := by
  induction j with
  | zero => simp [opnV_zero]
  | succ j ih =>
    rw [opnV_succ, List.length_append]
    have h1 : (endOf l j).length ≤ 1 := by
      unfold endOf
      split
      · split <;> simp
      · simp
    have := List.length_filter_le (fun e => decide (z < e)) (endOf l j)
    omega
def doneL (l : List Nd) (n k : Nat) : List Value := [.int .i64 (depTo l k), .int .i64 (sumI piecesN (l.take k)), .int .i64 (n : Int), .int .i64 (cut (sumI highN (l.take k)))]
theorem done_next {l : List Nd} {n k : Nat} {x : Nd} (hx : l[k]? = some x) {d p h : Int} (hd : d = if x.kind = 1 then max (depTo l k) (depN l k) else depTo l k) (hp : p = sumI piecesN (l.take k) + piecesN x) (hh : h = cut (sumI highN (l.take k) + highN x)) : [.int .i64 d, .int .i64 p, .int .i64 (n : Int), .int .i64 h] = doneL l n (k + 1) := by
  unfold doneL
  rw [depTo_succ hx, sumI_take piecesN hx, sumI_take highN hx, hd, hp, hh]
theorem pieces_1 {x : Nd} (h : x.kind = 1) : piecesN x = 0 := by unfold piecesN; rw [if_pos h]
theorem pieces_2 {x : Nd} (h : x.kind = 2) : piecesN x = (x.words.length : Int) := by unfold piecesN; rw [if_neg (by omega), if_pos h]
theorem pieces_3 {x : Nd} (h : ¬ x.kind = 1) (k : ¬ x.kind = 2) : piecesN x = 1 := by unfold piecesN; rw [if_neg h, if_neg k]
theorem high_1 {x : Nd} (h : x.kind = 1) : highN x = x.sty.top + x.sty.bottom + x.sty.padTop + x.sty.padBottom + x.sty.head := by unfold highN; rw [if_pos h]
theorem high_2 {x : Nd} (h : x.kind = 2) : highN x = x.line * (x.words.length : Int) := by unfold highN; rw [if_neg (by omega), if_pos h]
theorem high_3 {x : Nd} (h : ¬ x.kind = 1) (k : ¬ x.kind = 2) : highN x = x.h := by unfold highN; rw [if_neg h, if_neg k]
theorem five_cut {S a b c d e q1 q2 q3 q4 q5 : Int} (hS : 0 ≤ S) (ha : 0 ≤ a) (hb : 0 ≤ b) (hc : 0 ≤ c) (hd : 0 ≤ d) (he : 0 ≤ e) (h1 : min (cut S + a) 1099511627777 = q1) (h2 : min (q1 + b) 1099511627777 = q2) (h3 : min (q2 + c) 1099511627777 = q3) (h4 : min (q3 + d) 1099511627777 = q4) (h5 : min (q4 + e) 1099511627777 = q5) : q5 = cut (S + (a + b + c + d + e)) := by
  unfold cut cutN at *
  omega
set_option maxHeartbeats 8000000 in
set_option maxRecDepth 100000 in
theorem vCount_to {l : List Nd} {s : Sm} {f : Int} (ha : ansV l = (s, f)) {A : Option Addr} {n ca : Nat} {w : World} (h : PreV l w A n) (hW : ∀ x ∈ l, x.words.length ≤ 100000) : Calls Try.prog 34 #[.slice A n ca] w fun e w' => e = .returned (.tuple #[.agg #[.int .i64 s.depth, .int .i64 s.pieces, .int .i64 s.nodes, .int .i64 s.heights], .int .i64 f]) ∧ Below w.heap.size w w' := by
  obtain ⟨hl, hn⟩ := h
  have hla := hl.len
  have HA := Lib.hid hl
  have HWd := Lib.hid hW
  clear hl hW
  obtain ⟨s0, s1, s2, s3⟩ := s
  simp only
  rcases ansV_err ha with ⟨rfl, hd, hs⟩ | ⟨rfl, hd, hs⟩
  rotate_left
  · injection hs with h0 h1 h2 h3
    subst h0 h1 h2 h3
    have HD := Lib.hid hd
    clear ha hd
    go_enter Try.func34, Try.ntmps34
    go_wp2_with fail
    refine (vIs_to HD.out (HA.out.on (show On w _ from On.alloc (On.refl w) _))).mono ?_
    rintro e w1 ⟨rfl, hb⟩
    have hX : Box w1 w.heap.size [.int .i64 0, .int .i64 0, .int .i64 0, .int .i64 0] := (box_new w _ _ _ rfl _ rfl).below hb
    have c0 := hX.2.2 0 _ rfl
    have c1 := hX.2.2 1 _ rfl
    have c2 := hX.2.2 2 _ rfl
    have c3 := hX.2.2 3 _ rfl
    have f0 := hX.2.1 0
    have f1 := hX.2.1 1
    have f2 := hX.2.1 2
    have f3 := hX.2.1 3
    have fl := hX.1
    have HX := Lib.hid hX
    have HB := Lib.hid (below_then (show Below w.heap.size w _ by go_grown) hb)
    clear hX hb
    go_wp2_with fail
    have hY := ((((HX.out.set 0 (.int .i64 0) (by simp)).set 1 (.int .i64 0) (by simp)).set 2 (.int .i64 0) (by simp)).set 3 (.int .i64 0) (by simp))
    have r0 := hY.2.2 0 _ rfl
    have r1 := hY.2.2 1 _ rfl
    have r2 := hY.2.2 2 _ rfl
    have r3 := hY.2.2 3 _ rfl
    refine bodyPost_ret (v := .tuple #[.agg #[.int .i64 0, .int .i64 0, .int .i64 0, .int .i64 0], .int .i64 4]) (by simp [results, Try.results34, go_sem, r0, r1, r2, r3]) rfl ⟨rfl, ?_⟩
    exact ((((HB.out.setCell (by simp) _).setCell (by simp) _).setCell (by simp) _).setCell (by simp) _)
  have hdoc := (docB_iff l).1 hd
  have HDoc := Lib.hid hdoc
  have HNest := Lib.hid hdoc.2.nested
  have HD := Lib.hid hd
  have HS := Lib.hid hs
  clear ha hd hs hdoc
  go_enter Try.func34, Try.ntmps34
  go_wp2_with fail
  refine (vIs_to HD.out (HA.out.on (show On w _ from On.alloc (On.refl w) _))).mono ?_
  rintro e w1 ⟨rfl, hb⟩
  have hX : Box w1 w.heap.size [.int .i64 0, .int .i64 0, .int .i64 0, .int .i64 0] := (box_new w _ _ _ rfl _ rfl).below hb
  have HX := Lib.hid hX
  have HB := Lib.hid (below_then (show Below w.heap.size w _ by go_grown) hb)
  have hDw : w.heap.size < w1.heap.size := hX.1
  clear hX hb
  obtain ⟨D, hDe⟩ : ∃ D, w1.heap.size = D := ⟨_, rfl⟩
  go_wp2_with fail
  go_loopw [5] (fun i wr => ∃ k : Nat, k ≤ n ∧ i = .int .i64 k ∧ Box wr D (doneL l n k) ∧ Box wr w.heap.size [.int .i64 0, .int .i64 0, .int .i64 0, .int .i64 0] ∧ On w wr) (fun i _ => n - (intOf i).toNat)
  case atStart => exact ⟨0, Nat.zero_le _, rfl, by rw [show doneL l n 0 = [.int .i64 0, .int .i64 0, .int .i64 (n : Int), .int .i64 0] by unfold doneL; simp [depTo, sumI, cut, cutN]; omega]; exact box_new w1 _ _ _ hDe.symm _ rfl, HX.out.alloc _, HB.out.alloc (by omega) _⟩
  case round =>
    obtain ⟨k, hk, rfl, hBx, hZx, hon⟩ := hrel
    have HO := Lib.hid hon
    have HZ := Lib.hid hZx
    have HBx := Lib.hid hBx
    have hDl := hBx.1
    clear hon hZx hBx
    by_cases hlt : k < n
    rotate_left
    · obtain rfl : k = n := by omega
      have hd := HBx.out
      have hk9 : doneL l k k = [.int .i64 s0, .int .i64 s1, .int .i64 s2, .int .i64 s3] := by
        have e := HS.out
        have p1 := pieces_take l HWd.out l.length
        have p2 : 0 ≤ sumI piecesN (l.take l.length) := sumI_pos fun x _ => pieces_pos x
        rw [List.take_length] at p1 p2
        rw [sumB_eq, wr_in (by omega) (by omega)] at e
        injection e with e0 e1 e2 e3
        unfold doneL
        rw [← hla, List.take_length, ← e0, ← e1, ← e2, ← e3]
      rw [hk9] at hd
      have c0 := hd.2.2 0 _ rfl
      have c1 := hd.2.2 1 _ rfl
      have c2 := hd.2.2 2 _ rfl
      have c3 := hd.2.2 3 _ rfl
      have z0 := HZ.out.2.2 0 _ rfl
      have z1 := HZ.out.2.2 1 _ rfl
      have z2 := HZ.out.2.2 2 _ rfl
      have z3 := HZ.out.2.2 3 _ rfl
      have f0 := HZ.out.2.1 0
      have f1 := HZ.out.2.1 1
      have f2 := HZ.out.2.1 2
      have f3 := HZ.out.2.1 3
      have fl := HZ.out.1
      clear hd hk9
      go_wp2_with fail
      have hY := ((((HZ.out.set 0 (.int .i64 s0) (by simp)).set 1 (.int .i64 s1) (by simp)).set 2 (.int .i64 s2) (by simp)).set 3 (.int .i64 s3) (by simp))
      have r0 := hY.2.2 0 _ rfl
      have r1 := hY.2.2 1 _ rfl
      have r2 := hY.2.2 2 _ rfl
      have r3 := hY.2.2 3 _ rfl
      refine bodyPost_ret (v := .tuple #[.agg #[.int .i64 s0, .int .i64 s1, .int .i64 s2, .int .i64 s3], .int .i64 0]) (by simp [results, Try.results34, go_sem, r0, r1, r2, r3]) rfl ⟨rfl, ?_⟩
      exact ((((HO.out.setCell (by simp) _).setCell (by simp) _).setCell (by simp) _).setCell (by simp) _)
    obtain ⟨b1, o1, m1, x1, rfl, hb1, e1, r1, s1⟩ := (HA.out.on HO.out).at_ hlt
    have hk2 : (k : Int) < (n : Int) := by omega
    have R1 := Lib.hid (range_on r1)
    have S1 := Lib.hid s1
    have E1 := Lib.hid e1
    have HX1 := Lib.hid (HWd.out _ (List.mem_of_getElem? e1))
    have HF := Lib.hid (HDoc.out.1 _ (List.mem_of_getElem? e1))
    clear r1 s1 e1
    go_wp2_with (first | ((with_reducible refine stop_load 40 (.tmp 25) ?_ ?_); exact rfl; refine Stop.intro ?_; refine wpList_load_mid rfl 40 (.tmp 25) rfl b1 (o1 + k * 20) rfl (encM m1) _ (R1.out wr (On.refl wr)) Try.underlying40 rfl (by kernel_rfl) ?_) | ((with_reducible refine stop_store 40 (.tmp 6) (.tmp 26) ?_ ?_); exact rfl))
    refine Stop.intro ?_
    refine wpList_store_row rfl 40 (.tmp 6) (.tmp 26) rfl wr.heap.size rfl 40 #[.int .i64 0, .int .i64 0, .int .i64 0, .int .i64 0, .int .i64 0, .int .i64 0, .int .i64 0, .int .i64 0, .int .i64 0, .int .i64 0, .int .i64 0, .int .i64 0, .int .i64 0, .int .i64 0, .int .i64 0, .int .i64 0, .slice none 0 0, .int .i64 0, .int .i64 0, .int .i64 0] (encM m1).toArray rfl (Blk.new wr 40 [.int .i64 0, .int .i64 0, .int .i64 0, .int .i64 0, .int .i64 0, .int .i64 0, .int .i64 0, .int .i64 0, .int .i64 0, .int .i64 0, .int .i64 0, .int .i64 0, .int .i64 0, .int .i64 0, .int .i64 0, .int .i64 0, .slice none 0 0, .int .i64 0, .int .i64 0, .int .i64 0] _ rfl _ rfl) (by kernel_rfl) rfl (encM_all7 m1) ?_
    intro V hV
    have hbV : On wr V := by rw [hV]; exact below_setRow ((Below.refl _ _).alloc (Nat.le_refl _) _) (Nat.le_refl _) _
    have HK1 := Lib.hid (show Blk V wr.heap.size 40 (encM m1) by rw [hV]; exact Blk.row (Blk.new wr 40 [.int .i64 0, .int .i64 0, .int .i64 0, .int .i64 0, .int .i64 0, .int .i64 0, .int .i64 0, .int .i64 0, .int .i64 0, .int .i64 0, .int .i64 0, .int .i64 0, .int .i64 0, .int .i64 0, .int .i64 0, .int .i64 0, .slice none 0 0, .int .i64 0, .int .i64 0, .int .i64 0] _ rfl _ rfl) _ _ rfl)
    obtain ⟨X, hXe⟩ : ∃ X, wr.heap.size = X := ⟨_, rfl⟩
    have HBV := Lib.hid (below_then HO.out hbV)
    have HD1 := Lib.hid (HBx.out.below hbV)
    have HZ1 := Lib.hid (HZ.out.below hbV)
    rw [hXe] at HK1
    have hXD : D ≠ X := by omega
    have hXZ : w.heap.size ≠ X := by have := HO.out.size; have := HZ.out.1; omega
    have hDZ : w.heap.size ≠ D := by omega
    have HR1 := Lib.hid (fun (j : Nat) (hj : j < n) => HA.out.at_ hj)
    obtain ⟨dk, hdk⟩ : ∃ z, depTo l k = z := ⟨_, rfl⟩
    obtain ⟨pk, hpk⟩ : ∃ z, sumI piecesN (l.take k) = z := ⟨_, rfl⟩
    obtain ⟨hh, hhk⟩ : ∃ z, cut (sumI highN (l.take k)) = z := ⟨_, rfl⟩
    have d1 := depTo_pos l k
    have d2 := depTo_le l k
    have p1 := pieces_take l HWd.out k
    have p2 : 0 ≤ sumI piecesN (l.take k) := sumI_pos fun x _ => pieces_pos x
    have hSp : 0 ≤ sumI highN (l.take k) := sumI_pos fun x hx => high_pos (HDoc.out.1 x (List.mem_of_mem_take hx))
    have h1 := cut_pos hSp
    have h2 := cut_le (sumI highN (l.take k))
    unfold cutN at h2
    rw [hdk] at d1 d2
    rw [hpk] at p1 p2
    rw [hhk] at h1 h2
    have HD2 := Lib.hid (show Box V D [.int .i64 dk, .int .i64 pk, .int .i64 (n : Int), .int .i64 hh] by have h := HD1.out; unfold doneL at h; rw [hdk, hpk, hhk] at h; exact h)
    have HSp := Lib.hid hSp
    have HDK := Lib.hid hdk
    have HPK := Lib.hid hpk
    have HHK := Lib.hid hhk
    have hXlt : X < V.heap.size := HK1.out.box.1
    have hDlt : D < V.heap.size := HD2.out.1
    clear hV hbV hdk hpk hhk hSp HD1 hDl
    have c0 := HK1.out.box.2.2 0 _ rfl
    have hkx : x1.kind = m1.kind := S1.out.1.1
    by_cases q1 : m1.kind = 1
    · have b1' : (m1.kind == 1) = true := by simp [q1]
      have b2' : (m1.kind == 2) = false := by simp [q1]
      have b3' : ¬ (2 < m1.kind) := by omega
      have b4' : m1.kind ≤ 2 := by omega
      have HKX := Lib.hid (show x1.kind = 1 by rw [hkx]; exact q1)
      clear q1 hkx
      go_wp2_with fail
      go_loopw [7, 8] (fun dv kv wr2 => ∃ j : Nat, j ≤ k + 1 ∧ kv = .int .i64 j ∧ dv = .int .i64 ((opnV l j k).length : Nat) ∧ wr2 = V) (fun _ kv _ => k + 1 - (intOf kv).toNat)
      case atStart => exact ⟨0, by omega, rfl, by rw [opnV_zero]; rfl, rfl⟩
      case round =>
        obtain ⟨j, hj, rfl, rfl, rfl⟩ := hrel
        have hdl1 := open_le l j k
        obtain ⟨dl, hdl⟩ : ∃ d, (opnV l j k).length = d := ⟨_, rfl⟩
        rw [hdl] at hdl1
        rw [hdl]
        have HDL := Lib.hid hdl
        clear hdl
        by_cases hjk : j ≤ k
        · have hjk2 : (j : Int) ≤ (k : Int) := by omega
          obtain ⟨b2, o2, m2, x2, hA2, hb2, e2, r2, s2⟩ := HR1.out j (by omega)
          injection hA2 with hA2
          injection hA2 with e3 e4
          subst e3 e4
          have g0 : wr.cell? ⟨b1, o1 + j * 20, none⟩ = some (.int .i64 m2.kind) := On.cell (r2 0 _ rfl) _ HBV.out
          have g1 : wr.cell? ⟨b1, o1 + j * 20 + 1, none⟩ = some (.int .i64 m2.size) := On.cell (r2 1 _ rfl) _ HBV.out
          have hjn : (j : Int) < (n : Int) := by omega
          have hs1 : x2.kind = m2.kind := s2.1.1
          have hs2 : x2.size = m2.size := s2.1.2.1
          have hn1 := HNest.out j x2 e2
          have n1 := hn1.1
          have n2 := hn1.2.1
          rw [hs2] at n1 n2
          rw [hla] at n2
          have hwr : IntKind.i64.wrap ((j : Int) + m2.size) = (j : Int) + m2.size := by rw [IntKind.wrap_i64]; omega
          have HOL := Lib.hid (open_len e2 (k : Int))
          rw [hs1, hs2] at HOL
          clear r2 s2 hn1 e2 hs1 hs2
          by_cases t1 : m2.kind = 1
          · have t1' : (m2.kind == 1) = true := by simp [t1]
            by_cases t2 : (k : Int) < (j : Int) + m2.size
            · have HL2 := Lib.hid (show (opnV l (j + 1) k).length = dl + 1 by rw [HOL.out, if_pos ⟨t1, t2⟩, HDL.out])
              clear t1
              go_wp2_with fail
              go_roundw
              case rel => exact ⟨j + 1, by omega, by go_num, by rw [HL2.out]; go_num, by first | rfl | trivial⟩
              case measure => simp [intOf]; omega
            · have HL2 := Lib.hid (show (opnV l (j + 1) k).length = dl by rw [HOL.out, if_neg (fun e => t2 e.2), HDL.out, Nat.add_zero])
              have t2' : (j : Int) + m2.size ≤ (k : Int) := by omega
              clear t1 t2
              go_wp2_with fail
              go_roundw
              case rel => exact ⟨j + 1, by omega, by go_num, by rw [HL2.out], by first | rfl | trivial⟩
              case measure => simp [intOf]; omega
          · have t1' : (m2.kind == 1) = false := by simpa using t1
            have HL2 := Lib.hid (show (opnV l (j + 1) k).length = dl by rw [HOL.out, if_neg (fun e => t1 e.1), HDL.out, Nat.add_zero])
            clear t1
            go_wp2_with fail
            go_roundw
            case rel => exact ⟨j + 1, by omega, by go_num, by rw [HL2.out], by first | rfl | trivial⟩
            case measure => simp [intOf]; omega
        · obtain rfl : j = k + 1 := by omega
          have c9 := HD2.out.2.2 0 _ rfl
          have f9 := HD2.out.2.1 0
          obtain ⟨dm, hdm⟩ : ∃ z, max dk (dl : Int) = z := ⟨_, rfl⟩
          have HDM := Lib.hid hdm
          have hjk2 : (k : Int) < ((k + 1 : Nat) : Int) := by omega
          go_wp2_with fail
          have hDU : Box (wr.setCell ⟨D, 0, none⟩ (.int .i64 dm)) D [.int .i64 dm, .int .i64 pk, .int .i64 (n : Int), .int .i64 hh] := HD2.out.set 0 _ (by simp)
          have hKU : Blk (wr.setCell ⟨D, 0, none⟩ (.int .i64 dm)) X 40 (encM m1) := HK1.out.set_other hXD 0 _
          have hZU : Box (wr.setCell ⟨D, 0, none⟩ (.int .i64 dm)) w.heap.size [.int .i64 0, .int .i64 0, .int .i64 0, .int .i64 0] := HZ1.out.set_other (fun e => hDZ e.symm) 0 _
          have hOU : On w (wr.setCell ⟨D, 0, none⟩ (.int .i64 dm)) := HBV.out.setCell (by simp; omega) _
          generalize wr.setCell ⟨D, 0, none⟩ (.int .i64 dm) = U at hDU hKU hZU hOU
          obtain ⟨ts, hts⟩ : ∃ t, m1.sty = t := ⟨_, rfl⟩
          have hst : x1.sty = ts := by rw [← hts]; exact S1.out.1.2.2.1
          have hsf : ts.fits := by
            rcases HF.out with ⟨_, h, _⟩ | ⟨e, _⟩ | ⟨e, _⟩ | ⟨e, _⟩
            · rw [← hst]; exact h
            · rw [HKX.out] at e; omega
            · rw [HKX.out] at e; omega
            · rw [HKX.out] at e; omega
          have d3 := OnW.cell (hDU.2.2 3 _ rfl)
          have x2 := OnW.cell (hKU.box.2.2 2 _ rfl)
          have x3 := OnW.cell (hKU.box.2.2 3 _ rfl)
          have x4 := OnW.cell (hKU.box.2.2 4 _ rfl)
          have x5 := OnW.cell (hKU.box.2.2 5 _ rfl)
          have x9 := OnW.cell (hKU.box.2.2 9 _ rfl)
          rw [hts] at x2 x3 x4 x5 x9
          obtain ⟨t0, t1, t2, t3, t4, t5, t6, t7, t8, t9, t10, t11⟩ := ts
          obtain ⟨⟨⟨u0, v0⟩, ⟨u1, v1⟩, ⟨u2, v2⟩, ⟨u3, v3⟩, _⟩, _, ⟨u7, v7⟩, _⟩ := hsf
          unfold maxN at v0 v1 v2 v3 v7
          simp only at u0 v0 u1 v1 u2 v2 u3 v3 u7 v7 x2 x3 x4 x5 x9
          obtain ⟨y1, hy1⟩ : ∃ y, min (hh + t0) 1099511627777 = y := ⟨_, rfl⟩
          obtain ⟨y2, hy2⟩ : ∃ y, min (y1 + t1) 1099511627777 = y := ⟨_, rfl⟩
          obtain ⟨y3, hy3⟩ : ∃ y, min (y2 + t2) 1099511627777 = y := ⟨_, rfl⟩
          obtain ⟨y4, hy4⟩ : ∃ y, min (y3 + t3) 1099511627777 = y := ⟨_, rfl⟩
          obtain ⟨y5, hy5⟩ : ∃ y, min (y4 + t7) 1099511627777 = y := ⟨_, rfl⟩
          have B0 : 0 ≤ hh ∧ hh ≤ 1099511627777 := ⟨h1, h2⟩
          have B1 : 0 ≤ y1 ∧ y1 ≤ 1099511627777 := ⟨by omega, by omega⟩
          have B2 : 0 ≤ y2 ∧ y2 ≤ 1099511627777 := ⟨by omega, by omega⟩
          have B3 : 0 ≤ y3 ∧ y3 ≤ 1099511627777 := ⟨by omega, by omega⟩
          have B4 : 0 ≤ y4 ∧ y4 ≤ 1099511627777 := ⟨by omega, by omega⟩
          have T0 : 0 ≤ t0 ∧ t0 ≤ 4611686018427387904 := ⟨by omega, by omega⟩
          have T1 : 0 ≤ t1 ∧ t1 ≤ 4611686018427387904 := ⟨by omega, by omega⟩
          have T2 : 0 ≤ t2 ∧ t2 ≤ 4611686018427387904 := ⟨by omega, by omega⟩
          have T3 : 0 ≤ t3 ∧ t3 ≤ 4611686018427387904 := ⟨by omega, by omega⟩
          have T7 : 0 ≤ t7 ∧ t7 ≤ 4611686018427387904 := ⟨by omega, by omega⟩
          have HN9 := Lib.hid (done_next (n := n) E1.out (d := dm) (p := pk) (h := y5) (by rw [if_pos HKX.out, HDK.out, ← hdm, ← HDL.out]; rfl) (by rw [pieces_1 HKX.out, HPK.out]; omega) (by rw [high_1 HKX.out, hst]; exact five_cut HSp.out u0 u1 u2 u3 u7 (by rw [HHK.out]; exact hy1) hy2 hy3 hy4 hy5))
          have L1 := Lib.hid hy1
          have L2 := Lib.hid hy2
          have L3 := Lib.hid hy3
          have L4 := Lib.hid hy4
          have L5 := Lib.hid hy5
          have B0 := Lib.hid B0
          have B1 := Lib.hid B1
          have B2 := Lib.hid B2
          have B3 := Lib.hid B3
          have B4 := Lib.hid B4
          have T0 := Lib.hid T0
          have T1 := Lib.hid T1
          have T2 := Lib.hid T2
          have T3 := Lib.hid T3
          have T7 := Lib.hid T7
          have HDU := Lib.hid hDU
          have HKU := Lib.hid hKU
          have HZU := Lib.hid hZU
          have HOU := Lib.hid hOU
          clear hy1 hy2 hy3 hy4 hy5 hdm hts hst hDU hKU hZU hOU c9 f9 c0
          refine wp_region_on_tail 23 (by kernel_rfl) (by kernel_rfl) rfl (by kernel_rfl) ?_
          simp only [headOf, List.take_succ_cons, List.take_zero, List.getElem_toArray, List.getElem_cons_succ, List.getElem_cons_zero]
          repeat (go_big_quiet_step ((first
            | (go_at_call 47; with_reducible exact Calls.on_of (vplus_on L1.out _ B0.out T0.out))
            | (go_at_call 47; with_reducible exact Calls.on_of (vplus_on L2.out _ B1.out T1.out))
            | (go_at_call 47; with_reducible exact Calls.on_of (vplus_on L3.out _ B2.out T2.out))
            | (go_at_call 47; with_reducible exact Calls.on_of (vplus_on L4.out _ B3.out T3.out))
            | (go_at_call 47; with_reducible exact Calls.on_of (vplus_on L5.out _ B4.out T7.out)))))
          refine wpQuiet_nil ?_
          intro w3 hw'
          obtain ⟨⟨w', hOn⟩, hw''⟩ := hw'
          obtain rfl : w3 = w' := hw''
          have hDU := On.box HDU.out _ hOn
          have hKU := HKU.out.on hOn
          have d3 := hDU.2.2 3 _ rfl
          have f3 := hDU.2.1 3
          have fl := hDU.1
          have c0 := hKU.box.2.2 0 _ rfl
          have HDU := Lib.hid hDU
          have HZU := Lib.hid (On.box HZU.out _ hOn)
          have HOU := Lib.hid (HOU.out.step hOn)
          clear hDU hKU hOn x2 x3 x4 x5 x9
          go_wp2_with fail
          go_roundw
          case rel => exact ⟨k + 1, by omega, by go_num, by rw [← HN9.out]; exact HDU.out.set 3 _ (by simp), HZU.out.set_other (fun e => hDZ e.symm) 3 _, HOU.out.setCell (by simp; omega) _⟩
          case measure => simp [intOf]; omega
    by_cases q2 : m1.kind = 2
    · have b1' : (m1.kind == 1) = false := by simp [q2]
      have b2' : (m1.kind == 2) = true := by simp [q2]
      have b4' : m1.kind ≤ 2 := by omega
      have HKX := Lib.hid (show x1.kind = 2 by rw [hkx]; exact q2)
      have hwn : x1.words.length = m1.n := S1.out.2.1
      have hwn2 : m1.n ≤ 100000 := by rw [← hwn]; exact HX1.out
      have hline : x1.line = m1.line := S1.out.1.2.2.2.1
      have hlb : 1 ≤ m1.line ∧ m1.line ≤ 1099511627776 := by
        rcases HF.out with ⟨e, _⟩ | ⟨_, _, e, _⟩ | ⟨e, _⟩ | ⟨e, _⟩
        · rw [hkx] at e; omega
        · rw [← hline]; exact e
        · rw [hkx] at e; omega
        · rw [hkx] at e; omega
      obtain ⟨lb1, lb2⟩ := hlb
      have c16 := HK1.out.box.2.2 16 _ rfl
      have c9 := HD2.out.2.2 1 _ rfl
      have f9 := HD2.out.2.1 1
      have HWN := Lib.hid hwn
      have HLI := Lib.hid hline
      clear q1 q2 hkx hwn hline
      go_wp2_with fail
      have hDU : Box (V.setCell ⟨D, 1, none⟩ (.int .i64 (pk + (m1.n : Int)))) D [.int .i64 dk, .int .i64 (pk + (m1.n : Int)), .int .i64 (n : Int), .int .i64 hh] := HD2.out.set 1 _ (by simp)
      have hKU : Blk (V.setCell ⟨D, 1, none⟩ (.int .i64 (pk + (m1.n : Int)))) X 40 (encM m1) := HK1.out.set_other hXD 1 _
      have hZU : Box (V.setCell ⟨D, 1, none⟩ (.int .i64 (pk + (m1.n : Int)))) w.heap.size [.int .i64 0, .int .i64 0, .int .i64 0, .int .i64 0] := HZ1.out.set_other (fun e => hDZ e.symm) 1 _
      have hOU : On w (V.setCell ⟨D, 1, none⟩ (.int .i64 (pk + (m1.n : Int)))) := HBV.out.setCell (by simp; omega) _
      generalize V.setCell ⟨D, 1, none⟩ (.int .i64 (pk + (m1.n : Int))) = U at hDU hKU hZU hOU
      have HDU := Lib.hid hDU
      have HKU := Lib.hid hKU
      have HZU := Lib.hid hZU
      have HOU := Lib.hid hOU
      clear hDU hKU hZU hOU c16 c9 f9 c0
      go_loopw [9] (fun jv wr2 => ∃ (j : Nat) (hj : Int), j ≤ m1.n ∧ jv = .int .i64 j ∧ Hid (cut (sumI highN (l.take k) + m1.line * (j : Int)) = hj) ∧ 0 ≤ hj ∧ hj ≤ 1099511627777 ∧ Box wr2 D [.int .i64 dk, .int .i64 (pk + (m1.n : Int)), .int .i64 (n : Int), .int .i64 hj] ∧ Blk wr2 X 40 (encM m1) ∧ Box wr2 w.heap.size [.int .i64 0, .int .i64 0, .int .i64 0, .int .i64 0] ∧ On w wr2) (fun jv _ => m1.n - (intOf jv).toNat)
      case atStart => exact ⟨0, hh, Nat.zero_le _, rfl, Lib.hid (by rw [← HHK.out]; simp), h1, h2, HDU.out, HKU.out, HZU.out, HOU.out⟩
      case round =>
        obtain ⟨j, hj, hjn, rfl, HJ, j1, j2, hDU, hKU, hZU, hOU⟩ := hrel
        have HDU := Lib.hid hDU
        have HKU := Lib.hid hKU
        have HZU := Lib.hid hZU
        have HOU := Lib.hid hOU
        have c14 := hKU.box.2.2 14 _ rfl
        have c16 := hKU.box.2.2 16 _ rfl
        have c0 := hKU.box.2.2 0 _ rfl
        have d3 := hDU.2.2 3 _ rfl
        have f3 := hDU.2.1 3
        have fl := hDU.1
        clear hDU hKU hZU hOU
        by_cases hlt2 : j < m1.n
        · have hlt3 : (j : Int) < (m1.n : Int) := by omega
          obtain ⟨g, hg⟩ : ∃ g, min (hj + m1.line) 1099511627777 = g := ⟨_, rfl⟩
          have HG := Lib.hid hg
          have HJ2 := Lib.hid (show cut (sumI highN (l.take k) + m1.line * ((j + 1 : Nat) : Int)) = g by
            rw [← hg, ← HJ.out, show sumI highN (l.take k) + m1.line * ((j + 1 : Nat) : Int) = (sumI highN (l.take k) + m1.line * (j : Int)) + m1.line by rw [show ((j + 1 : Nat) : Int) = (j : Int) + 1 by omega, Int.mul_add]; omega]
            exact cut_step (by omega))
          have g1 : 0 ≤ g := by omega
          have g2 : g ≤ 1099511627777 := by omega
          clear hg
          go_wp2_with fail
          refine (vplus_on HG.out _ ⟨j1, j2⟩ ⟨by omega, by omega⟩).mono ?_
          rintro e w5 ⟨rfl, hb5⟩
          have hDU := HDU.out.below hb5
          have d3 := hDU.2.2 3 _ rfl
          have f3 := hDU.2.1 3
          have fl := hDU.1
          have HDU := Lib.hid hDU
          have HKU := Lib.hid (HKU.out.on hb5)
          have HZU := Lib.hid (HZU.out.below hb5)
          have HOU := Lib.hid (HOU.out.step hb5)
          clear hDU hb5 c14 c16 c0
          go_wp2_with fail
          go_roundw
          case rel => exact ⟨j + 1, g, by omega, by go_num, HJ2, g1, g2, HDU.out.set 3 _ (by simp), HKU.out.set_other hXD 3 _, HZU.out.set_other (fun e => hDZ e.symm) 3 _, HOU.out.setCell (by simp; omega) _⟩
          case measure => simp [intOf]; omega
        · obtain rfl : j = m1.n := by omega
          have HN9 := Lib.hid (done_next (n := n) E1.out (d := dk) (p := pk + (m1.n : Int)) (h := hj) (by rw [if_neg (by rw [HKX.out]; decide), HDK.out]) (by rw [pieces_2 HKX.out, HWN.out, HPK.out]) (by rw [high_2 HKX.out, HWN.out, HLI.out, HJ.out]))
          go_wp2_with fail
          go_roundw
          case rel => exact ⟨k + 1, by omega, by go_num, by rw [← HN9.out]; exact HDU.out, HZU.out, HOU.out⟩
          case measure => simp [intOf]; omega
    have b1' : (m1.kind == 1) = false := by simpa using q1
    have b2' : (m1.kind == 2) = false := by simpa using q2
    have hmk : 3 ≤ m1.kind ∧ 1 ≤ m1.h ∧ m1.h ≤ 1099511627776 := by
      have e8 : x1.h = m1.h := S1.out.1.2.2.2.2.2.2.2
      rcases HF.out with ⟨e, _⟩ | ⟨e, _⟩ | ⟨e, _, _, _, _, _, hh1, _⟩ | ⟨e, _, _, _, _, _, hh1, _⟩
      · rw [hkx] at e; omega
      · rw [hkx] at e; omega
      · rw [hkx] at e; rw [← e8]; exact ⟨by omega, hh1.1, hh1.2⟩
      · rw [hkx] at e; rw [← e8]; exact ⟨by omega, hh1.1, hh1.2⟩
    obtain ⟨mk1, mk2, mk3⟩ := hmk
    have b3' : 2 < m1.kind := by omega
    obtain ⟨g, hg⟩ : ∃ g, min (hh + m1.h) 1099511627777 = g := ⟨_, rfl⟩
    have HG := Lib.hid hg
    have q1x : ¬ x1.kind = 1 := by rw [hkx]; exact q1
    have q2x : ¬ x1.kind = 2 := by rw [hkx]; exact q2
    have HN9 := Lib.hid (done_next (n := n) E1.out (d := dk) (p := pk + 1) (h := g) (by rw [if_neg q1x, HDK.out]) (by rw [pieces_3 q1x q2x, HPK.out]) (by rw [high_3 q1x q2x, S1.out.1.2.2.2.2.2.2.2, ← hg, ← HHK.out]; exact (cut_step (by omega)).symm))
    have c19 := HK1.out.box.2.2 19 _ rfl
    have c9 := HD2.out.2.2 1 _ rfl
    have f9 := HD2.out.2.1 1
    have d3 := HD2.out.2.2 3 _ rfl
    have f3 := HD2.out.2.1 3
    clear q1 q2 hkx q1x q2x hg
    go_wp2_with fail
    refine (vplus_on HG.out _ ⟨h1, h2⟩ ⟨by omega, by omega⟩).mono ?_
    rintro e w5 ⟨rfl, hb5⟩
    have hDU := (HD2.out.set 1 (.int .i64 (pk + 1)) (by simp)).below hb5
    have d3 := hDU.2.2 3 _ rfl
    have f3 := hDU.2.1 3
    have fl := hDU.1
    have HDU := Lib.hid hDU
    have HZU := Lib.hid ((HZ1.out.set_other (fun e => hDZ e.symm) 1 (.int .i64 (pk + 1))).below hb5)
    have HOU := Lib.hid (On.step (show On w (V.setCell ⟨D, 1, none⟩ (.int .i64 (pk + 1))) from HBV.out.setCell (by simp; omega) _) hb5)
    clear hDU hb5 c19 c9 f9 c0
    go_wp2_with fail
    go_roundw
    case rel => exact ⟨k + 1, by omega, by go_num, by rw [← HN9.out]; exact HDU.out.set 3 _ (by simp), HZU.out.set_other (fun e => hDZ e.symm) 3 _, HOU.out.setCell (by simp; omega) _⟩
    case measure => simp [intOf]; omega
end Go.Proofs.Ytipmdhfinlkceaa
