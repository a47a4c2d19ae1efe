import Derived.Test.YtdjnaejblgheoaaGreatJS02
import Derived.Test.YtdjnaejblgheoaaGreatJS20
import Derived.Test.YtdjnaejblgheoaaGreatJS11
import Derived.Test.YtdjnaejblgheoaaGreatJS01
import Derived.Deep.RegionHeld3
/- Stage 14's laws: what nodes do to a pen, as a row of steps. (Written by program: tools/drafts/genstepsf14.py.) -/
namespace Go.Proofs.YtdjnaejblgheoaaGreat
open Go.RowKit
set_option linter.unusedVariables false
set_option linter.unusedSimpArgs false
theorem stp_info14 : (Tryz.prog.info? 102).map (fun i => (i.zero, i.size, i.bytes)) = some (some (.agg #[.int .i64 0, .int .i64 0, .int .i64 0]), 3, 24) := by kernel_rfl
theorem wpList_append_cells_any {P : Program} {w : World} {ops : Array Oper} {rest : List Oper} {o : Oper} {a : Act} {Q : Exit → Act → World → Prop} (hgd : o.guard = none) (s x : Operand) (t : TypeId)
    (ho : o.op = .call { callee := .builtin .append, args := #[s, x], argTypes := #[t, t] })
    (base : Nat) (e : TypeId) (i : TypeInfo) (z : Value) (size bytes : Nat) (ht : P.underlying t = some (.slice e)) (hi : P.info? e = some i) (hz : i.zero = some z)
    (hsize : i.size = size) (hby : i.bytes = bytes) (hzs : z.cells.size = size) (hsz : 0 < size)
    (v : Value) (n : Nat) (xs : List Value) (hs : a.eval s = v) (hown : w.ownsRow base e size v n xs)
    (A : Option Addr) (m c : Nat) (news : List Value) (hx : a.eval x = .slice A m c) (hc : Cells w A m size news) (h1 : ∀ u ∈ news, u.oneCell' = true)
    (h63 : n + m ≤ maxLen) (hbytes : (n + m) * bytes ≤ 140737488355328) (hbase : base ≤ w.heap.size)
    (h : ∀ A' c' w', w'.ownsRow base e size (.slice A' (n + m) c') (n + m) (xs ++ news) → w.grownBy w' v.ownBlock → ((Value.slice A' (n + m) c').ownBlock = v.ownBlock ∨ (Value.slice A' (n + m) c').ownBlock = some w.heap.size) → wpList P ops Q rest (a.put o.dst (.slice A' (n + m) c')) w') : wpList P ops Q (o :: rest) a w := by
  rcases Nat.eq_zero_or_pos m with rfl | hm
  · have hn : news = [] := List.eq_nil_of_length_eq_zero (by simpa using hc.1)
    subst hn
    obtain ⟨A', c', rfl⟩ := ownsRow_form hown
    have hr := run_append_zero (P := P) w base t o.type e i size ht hi _ n xs hown A c
    refine wpList_plain hgd fun _ hK => ?_
    unfold Oper.wp execOp
    simp only [ho, resolve, invoke, builtin, Sem.run_bind, Sem.run_pure, Result.andThen_ok, List.map_toArray, List.map_cons, List.map_nil, hs, hx, hr]
    exact hK _ _ (h A' c' w (by simpa using hown) (World.grownBy.refl _ _) (.inl rfl))
  · exact wpList_append_cells_at hgd s x t ho base e i z size bytes ht hi hz hsize hby hzs hsz v n xs hs hown A m c news hm hx hc h1 h63 hbytes hbase h
/-- steps in a new row of the call's own. -/
def StsOwn (w : World) (l : List Stp) (e : Ending) (w' : World) : Prop := ∃ A n c, e = .returned (.slice A n c) ∧ n = l.length ∧ w'.ownsRow w.heap.size 102 3 (.slice A n c) n (l.flatMap encSt) ∧ Below w.heap.size w w'
/-- steps so far, and a node in block NB. -/
structure Stn (w : World) (NB : Nat) (mm : NdM) (W : World) (ls : List Stp) (A : Option Addr) (n c : Nat) : Prop where
  own : W.ownsRow w.heap.size 102 3 (.slice A n c) n (ls.flatMap encSt)
  low : Below w.heap.size w W
  len : ls.length = n
  nb : Box W NB (encM mm)
  ne : ∀ r, (Value.slice A n c).ownBlock = some r → r ≠ NB
theorem Stn.below {w W W' : World} {NB : Nat} {mm : NdM} {ls : List Stp} {A : Option Addr} {n c : Nat} (h : Stn w NB mm W ls A n c) (hb : Below W.heap.size W W') : Stn w NB mm W' ls A n c := ⟨owns_below h.own hb, below_then h.low hb, h.len, h.nb.below hb, h.ne⟩
theorem Stn.push {w U w7 : World} {NB : Nat} {mm : NdM} {ls new : List Stp} {A A7 : Option Addr} {n c c7 k : Nat} (h : Stn w NB mm U ls A n c) (hk : new.length = k) (hown : w7.ownsRow w.heap.size 102 3 (.slice A7 (n + k) c7) (n + k) (ls.flatMap encSt ++ new.flatMap encSt))
    (hg : U.grownBy w7 (Value.slice A n c).ownBlock) (ha : (Value.slice A7 (n + k) c7).ownBlock = (Value.slice A n c).ownBlock ∨ (Value.slice A7 (n + k) c7).ownBlock = some U.heap.size) : Stn w NB mm w7 (ls ++ new) A7 (n + k) c7 := by
  refine ⟨by rw [List.flatMap_append]; exact hown, Below.grown h.low hg h.low.size (fun r e => owns_block h.own r e), by rw [List.length_append, h.len, hk], h.nb.grown hg h.ne, fun r e => ?_⟩
  rcases ha with ha | ha
  · exact h.ne r (by rw [← ha]; exact e)
  · rw [ha] at e
    injection e with e
    have := h.nb.1
    omega
theorem flat_one (s : Stp) : [s].flatMap encSt = encSt s := by simp
theorem near9_fits {x : Nd} (h : x.fits) : Near9 x.words x.space := by
  rcases h with ⟨_, _, _, h1, h2, _⟩ | ⟨_, _, _, h1, _, h2, _⟩ | ⟨_, _, _, h1, h2, _⟩ | ⟨_, _, _, h1, h2, _⟩
  · rw [h1, h2]; exact ⟨⟨by decide, by decide⟩, fun z hz => by cases hz⟩
  · exact ⟨⟨by have := h1.1; omega, by have := h1.2; unfold farN maxN at *; omega⟩, fun z hz => ⟨by have := (h2 z hz).1; omega, by have := (h2 z hz).2; unfold farN maxN at *; omega⟩⟩
  · rw [h1, h2]; exact ⟨⟨by decide, by decide⟩, fun z hz => by cases hz⟩
  · rw [h1, h2]; exact ⟨⟨by decide, by decide⟩, fun z hz => by cases hz⟩
theorem no_lines {x : Nd} {u : Int} (h : x.fits) (hk : x.kind ≠ 2) : linesP x.words x.space u 0 = [] := by
  have hw : x.words = [] := by
    rcases h with ⟨_, _, _, h1, h2, _⟩ | ⟨h1, _⟩ | ⟨_, _, _, h1, h2, _⟩ | ⟨_, _, _, h1, h2, _⟩
    · exact h2
    · exact absurd h1 hk
    · exact h2
    · exact h2
  rw [hw]
  exact linesP_end (Nat.le_refl _)
set_option maxHeartbeats 16000000 in
set_option maxRecDepth 100000 in
theorem lsteps14_to {L : List Nd} {wd : Int} (hd : IsDoc L) (w1d : 1 ≤ wd) (w2d : wd ≤ maxX) (hw60 : ∀ y ∈ L, y.words.length ≤ 60) {An Ar : Option Addr} {nn cn cr : Nat} (hnn : nn ≤ 1000) {w0 : World} (hS : Sees w0 An nn L) (hR : Rows 2 encRm w0 Ar nn (roomsTo L wd nn)) :
    ∀ (d i e : Nat), e ≤ i + d → i ≤ e → Clo L i e → ∀ (a b : Int), a = (i : Int) → b = (e : Int) → ∀ (w : World), On w0 w → Calls Tryz.prog 18 #[.slice An nn cn, .slice Ar nn cr, .int .i64 a, .int .i64 b] w (StsOwn w (stpsE L wd (evN L i e))) := by
  intro d
  induction d using Nat.strongRecOn with
  | _ d ih =>
  intro i e hed hie hclo a b ha hb w hw
  subst ha hb
  obtain ⟨q0, hq0, hy0, hy1, hy2⟩ := info_parts stp_info14
  have hlen : L.length = nn := hS.len
  have hen : e ≤ nn := by rw [← hlen]; exact hclo.1
  have hel := evN_len hd.2.nested (e - i) i e (by omega) hclo
  have hsl := stps_len (wd := wd) hw60 (evN L i e)
  have hcap : (stpsE L wd (evN L i e)).length ≤ 120000 := by omega
  have HCAP := Lib.hid hcap
  have HCL := Lib.hid hclo
  have HIH := Lib.hid ih
  have HD := Lib.hid hd
  have HW6 := Lib.hid hw60
  have HS := Lib.hid hS
  have HR := Lib.hid hR
  have HED := Lib.hid hed
  have HW := Lib.hid hw
  clear hS hR hclo ih hd hw60 hed hw hel hsl hcap hlen
  go_enter Tryz.func18, Tryz.ntmps18
  go_wp2_with fail
  go_loopw [2, 9, 10, 11, 12] (fun s2 s9 s10 s11 s12 wr => ∃ (j : Nat) (ls : List Stp) (A : Option Addr) (n c : Nat), s2 = .int .i64 (j : Int) ∧ s9 = .slice A n c ∧ i ≤ j ∧ j ≤ e ∧ Hid (Clo L j e) ∧ Hid (ls ++ stpsE L wd (evN L j e) = stpsE L wd (evN L i e)) ∧ Hid (ls.length = n) ∧ Hid (wr.ownsRow w.heap.size 102 3 (.slice A n c) n (ls.flatMap encSt)) ∧ Hid (Below w.heap.size w wr)) (fun s2 _ _ _ _ _ => e - (intOf s2).toNat)
  case atStart => exact ⟨i, [], none, 0, 0, rfl, rfl, Nat.le_refl _, hie, HCL, Lib.hid rfl, Lib.hid rfl, Lib.hid (owns_nil _ _ _ _), Lib.hid (Below.refl _ _)⟩
  case round =>
    obtain ⟨j, ls, A, n, c, rfl, rfl, hij, hje, HC, HEQ, HLN, HOW, HLO⟩ := hrel
    by_cases hlt : j < e
    · have hlt2 : (j : Int) < (e : Int) := by omega
      obtain ⟨y, hy, hle⟩ := HC.out.at_ hlt
      have hjn : j < nn := by omega
      have hjn2 : (j : Int) < (nn : Int) := by omega
      have hj0 : (0 : Int) ≤ (j : Int) := by omega
      have hon : On w0 wr := below_then HW.out (show Below w.heap.size w wr from HLO.out)
      obtain ⟨bn, on_, mm, y', hAn, hbn, hy', hrg, hsh⟩ := HS.out.at_ hjn
      obtain rfl : y = y' := by rw [hy] at hy'; injection hy'
      obtain ⟨br, or_, ⟨rx, ru⟩, hAr, hbr, hrz, hrc⟩ := HR.out.at_ hjn
      subst hAn hAr
      have hyf := HD.out.1 y (List.mem_of_getElem? hy)
      have hrp : roomP L wd j = (rx, ru) := by rw [roomsTo_get hjn] at hrz; injection hrz
      have hc1 := hrc 1 _ rfl
      have hrb := room_bd HD.out.1 w1d w2d j
      rw [hrp] at hrb
      have hstp : stpsE L wd (evN L j e) = stpsE L wd (ev1 L j y) ++ stpsE L wd (evN L (nxt j y) e) := by rw [evN_step hlt hy hle, stpsE_append]
      have hnj := (nxt_of HD.out.2.nested hy).1
      have hlj := nxt_lt j y
      have htot : ls.length + (stpsE L wd (ev1 L j y)).length ≤ 120000 := by
        have h9 := HCAP.out
        rw [← HEQ.out, hstp, List.length_append, List.length_append] at h9
        omega
      have HC2 := Lib.hid (HC.out.next hy)
      have HEQ2 := Lib.hid (show (ls ++ stpsE L wd (ev1 L j y)) ++ stpsE L wd (evN L (nxt j y) e) = stpsE L wd (evN L i e) by rw [← HEQ.out, hstp, List.append_assoc])
      have HNJ := Lib.hid hnj
      have HLJ := Lib.hid (show j < nxt j y ∧ nxt j y ≤ e from ⟨hlj, hle⟩)
      have HTOT := Lib.hid htot
      have HY := Lib.hid hy
      have HYF := Lib.hid hyf
      have HRP := Lib.hid hrp
      have HSH := Lib.hid hsh
      have HRG := Lib.hid (range_on hrg wr hon)
      have HC1 := Lib.hid hc1
      have HON := Lib.hid hon
      have HN9 := Lib.hid (near9_fits hyf)
      have HIU := Lib.hid (show I64w ru from ⟨by have := hrb.2.2.1; simp only at this; omega, by have h1 := hrb.2.2.2; simp only at h1; unfold maxX at w2d; omega⟩)
      have hmn : mm.n ≤ 1000 := by have h1 := hsh.2.1; have h2 := HW6.out y (List.mem_of_getElem? hy); omega
      have hwj : IntKind.i64.wrap ((j : Int) + y.size) = (j : Int) + y.size := IntWalk.i64_in _ (by omega)
      have hwj1 : IntKind.i64.wrap ((j : Int) + 1) = (j : Int) + 1 := IntWalk.i64_in _ (by omega)
      have hks : y.kind = 1 ∨ y.kind = 2 ∨ y.kind = 3 ∨ y.kind = 4 := by
        rcases hyf with ⟨h9, _⟩ | ⟨h9, _⟩ | ⟨h9, _⟩ | ⟨h9, _⟩
        · exact .inl h9
        · exact .inr (.inl h9)
        · exact .inr (.inr (.inl h9))
        · exact .inr (.inr (.inr h9))
      clear hy hle hy' hrg hsh hyf hrp hc1 hrb hstp hnj hlj htot hon hbn hbr hrz hrc HC HEQ
      go_wp2_with ((with_reducible refine stop_load 40 (.tmp 18) ?_ ?_); exact rfl)
      refine Stop.intro ?_
      refine wpList_load_mid rfl 40 (.tmp 18) rfl bn (on_ + j * 20) rfl (encM mm) _ HRG.out Tryz.underlying40 rfl (by kernel_rfl) ?_
      go_wp2_with ((with_reducible refine stop_store 40 (.tmp 10) (.tmp 19) ?_ ?_); exact rfl)
      refine Stop.intro ?_
      refine wpList_store_row rfl 40 (.tmp 10) (.tmp 19) rfl wr.heap.size rfl 40 #[.int .i64 0, .int .i64 0, .int .i64 0, .int .i64 0, .int .i64 0, .int .i64 0, .int .i64 0, .int .i64 0, .int .i64 0, .int .i64 0, .int .i64 0, .int .i64 0, .int .i64 0, .int .i64 0, .int .i64 0, .int .i64 0, .slice none 0 0, .int .i64 0, .int .i64 0, .int .i64 0] (encM mm).toArray rfl (Blk.new wr 40 [.int .i64 0, .int .i64 0, .int .i64 0, .int .i64 0, .int .i64 0, .int .i64 0, .int .i64 0, .int .i64 0, .int .i64 0, .int .i64 0, .int .i64 0, .int .i64 0, .int .i64 0, .int .i64 0, .int .i64 0, .int .i64 0, .slice none 0 0, .int .i64 0, .int .i64 0, .int .i64 0] _ rfl _ rfl) (by kernel_rfl) rfl (encM_alls mm) ?_
      intro V hV
      have hbV : On wr V := by rw [hV]; exact below_setRow ((Below.refl _ _).alloc (Nat.le_refl _) _) (Nat.le_refl _) _
      have HSN := Lib.hid (show Stn w wr.heap.size mm V ls A n c from ⟨owns_below HOW.out hbV, below_then HLO.out hbV, HLN.out, by rw [hV]; exact (Blk.row (Blk.new wr 40 [.int .i64 0, .int .i64 0, .int .i64 0, .int .i64 0, .int .i64 0, .int .i64 0, .int .i64 0, .int .i64 0, .int .i64 0, .int .i64 0, .int .i64 0, .int .i64 0, .int .i64 0, .int .i64 0, .int .i64 0, .int .i64 0, .slice none 0 0, .int .i64 0, .int .i64 0, .int .i64 0] _ rfl _ rfl) (encM mm) _ rfl).box, fun r e => by have := owns_block_lt HOW.out r e; omega⟩)
      have HONV := Lib.hid (On.step HON.out hbV)
      clear hV hbV HRG HOW HLO HON
      generalize wr.heap.size = NB at HSN ⊢
      have HIW := Lib.hid (show ∀ W', On w0 W' → Ints W' mm.A mm.n y.words from fun W' ho => HSH.out.2.below (B := w0.heap.size) ho rfl)
      try simp only [Act.put]
      rcases hks with hk | hk | hk | hk
      · have hev : stpsE L wd (ev1 L j y) = [⟨1, y.sty.top, y.sty.padTop⟩] ++ stpsE L wd (evN L (j + 1) (nxt j y)) ++ [⟨2, y.sty.bottom, y.sty.padBottom⟩] := by
          unfold ev1
          rw [if_pos hk]
          show stpE L wd (.begin_ j) ++ stpsE L wd (evN L (j + 1) (nxt j y) ++ [.end_ j]) = _
          rw [stpsE_append, stpE_begin HY.out]
          show _ ++ (_ ++ (stpE L wd (.end_ j) ++ [])) = _
          rw [stpE_end HY.out, List.append_nil, ← List.append_assoc]
        have hl1 := HTOT.out
        rw [hev, List.length_append, List.length_append] at hl1
        simp only [List.length_cons, List.length_nil] at hl1
        have HNL := Lib.hid HLN.out
        have hn1 : n ≤ 110000 + 10000 := by have := HLN.out; omega
        have HIN := Lib.hid (HIH.out (d - 1) (by have := HED.out; have := HLJ.out; omega) (j + 1) (nxt j y) (by have := HED.out; have := HLJ.out; omega) (by have := HLJ.out; omega) (Clo.inner HD.out.2.nested HY.out hk) ((j : Int) + 1) ((j : Int) + y.size) (by omega) HNJ.out.symm)
        have HEV := Lib.hid hev
        clear hev
        obtain ⟨⟨nd0, nd1, nd2, nd3, nd4, nd5, nd13⟩, ⟨nd14, nd15, nd16, nd17, nd18, nd19⟩, nl⟩ := nd_see HSH.out HSN.out.nb
        rw [hk] at nd0
        go_wp2_with ((with_reducible refine stop_dst 32 ?_ ?_); exact rfl)
        refine Stop.intro ?_
        have HP := Lib.hid (HSN.out.below ((Below.refl V.heap.size V).alloc (Nat.le_refl _) (.cells #[.int .i64 1, .int .i64 y.sty.top, .int .i64 y.sty.padTop] 102)))
        refine wpList_append_cells_any rfl (.tmp 23) (.tmp 31) _ rfl w.heap.size 102 q0 (.agg #[.int .i64 0, .int .i64 0, .int .i64 0]) 3 24 Tryz.underlying57 hq0 hy0 hy1 hy2 rfl (by decide) _ n _ rfl HP.out.own _ 1 1 _ rfl (cells_three V _ _ _ _) (encSt_one ⟨1, y.sty.top, y.sty.padTop⟩) (by unfold maxLen; omega) (by omega) (by have := HP.out.low.size; exact this) ?_
        intro Aa ca wa hown hg ha
        have HSa := Lib.hid (HP.out.push (new := [⟨1, y.sty.top, y.sty.padTop⟩]) rfl (by rw [flat_one]; exact hown) hg ha)
        clear hown hg ha HP
        clear nd0 nd1 nd2 nd3 nd4 nd5 nd13 nd14 nd15 nd16 nd17 nd18 nd19 nl
        obtain ⟨⟨nd0, nd1, nd2, nd3, nd4, nd5, nd13⟩, ⟨nd14, nd15, nd16, nd17, nd18, nd19⟩, nl⟩ := nd_see HSH.out HSa.out.nb
        rw [hk] at nd0
        have hln1 := HLN.out
        have HONa := Lib.hid (below_then HW.out HSa.out.low)
        go_wp2_with fail
        refine (HIN.out wa HONa.out).mono ?_
        rintro e' w5 ⟨Ai, ni, ci, rfl, hni, hoi, hbi⟩
        have HS5 := Lib.hid (HSa.out.below hbi)
        have HOI := Lib.hid hoi
        have hni2 : ni ≤ 120000 := by omega
        have HNI := Lib.hid hni
        clear nd0 nd1 nd2 nd3 nd4 nd5 nd13 nd14 nd15 nd16 nd17 nd18 nd19 nl
        clear hoi hbi HIN hni
        go_wp2_with ((with_reducible refine stop_dst 43 ?_ ?_); exact rfl)
        refine Stop.intro ?_
        refine wpList_append_cells_any rfl (.tmp 33) (.tmp 42) _ rfl w.heap.size 102 q0 (.agg #[.int .i64 0, .int .i64 0, .int .i64 0]) 3 24 Tryz.underlying57 hq0 hy0 hy1 hy2 rfl (by decide) _ (n + 1) _ rfl HS5.out.own Ai ni ci _ rfl (ownsRow_cells HOI.out) (sts_one _) (by unfold maxLen; omega) (by omega) (by have := HS5.out.low.size; exact this) ?_
        intro Ab cb wb hown hg ha
        have HSb := Lib.hid (HS5.out.push HNI.out.symm hown hg ha)
        clear hown hg ha HOI HS5
        obtain ⟨⟨nd0, nd1, nd2, nd3, nd4, nd5, nd13⟩, ⟨nd14, nd15, nd16, nd17, nd18, nd19⟩, nl⟩ := nd_see HSH.out HSb.out.nb
        rw [hk] at nd0
        go_wp2_with ((with_reducible refine stop_dst 53 ?_ ?_); exact rfl)
        refine Stop.intro ?_
        have HP := Lib.hid (HSb.out.below ((Below.refl wb.heap.size wb).alloc (Nat.le_refl _) (.cells #[.int .i64 2, .int .i64 y.sty.bottom, .int .i64 y.sty.padBottom] 102)))
        refine wpList_append_cells_any rfl (.tmp 44) (.tmp 52) _ rfl w.heap.size 102 q0 (.agg #[.int .i64 0, .int .i64 0, .int .i64 0]) 3 24 Tryz.underlying57 hq0 hy0 hy1 hy2 rfl (by decide) _ (n + 1 + ni) _ rfl HP.out.own _ 1 1 _ rfl (cells_three wb _ _ _ _) (encSt_one ⟨2, y.sty.bottom, y.sty.padBottom⟩) (by unfold maxLen; omega) (by omega) (by have := HP.out.low.size; exact this) ?_
        intro Ac cc wc hown hg ha
        have HSc := Lib.hid (HP.out.push (new := [⟨2, y.sty.bottom, y.sty.padBottom⟩]) rfl (by rw [flat_one]; exact hown) hg ha)
        clear hown hg ha HP
        clear nd0 nd1 nd2 nd3 nd4 nd5 nd13 nd14 nd15 nd16 nd17 nd18 nd19 nl
        have HPART := Lib.hid (show ls ++ [⟨1, y.sty.top, y.sty.padTop⟩] ++ stpsE L wd (evN L (j + 1) (nxt j y)) ++ [⟨2, y.sty.bottom, y.sty.padBottom⟩] = ls ++ stpsE L wd (ev1 L j y) by rw [HEV.out]; simp only [List.append_assoc])
        have HMANY := Lib.hid (show linesP y.words y.space ru 0 = [] from no_lines HYF.out (by omega))
        generalize hLX : ls ++ [(⟨1, y.sty.top, y.sty.padTop⟩ : Stp)] ++ stpsE L wd (evN L (j + 1) (nxt j y)) ++ [(⟨2, y.sty.bottom, y.sty.padBottom⟩ : Stp)] = lx at HSc HPART
        clear hLX
        generalize n + 1 + ni + 1 = nx at HSc ⊢
        have HFX := Lib.hid (show lx ++ List.replicate (linesP y.words y.space ru 0).length ⟨4, y.line, 0⟩ ++ [] = ls ++ stpsE L wd (ev1 L j y) by rw [HMANY.out]; simpa using HPART.out)
        clear HPART HEV HMANY
        obtain ⟨⟨nd0, nd1, nd2, nd3, nd4, nd5, nd13⟩, ⟨nd14, nd15, nd16, nd17, nd18, nd19⟩, nl⟩ := nd_see HSH.out HSc.out.nb
        rw [hk] at nd0
        have HTX := Lib.hid (show lx.length + (linesP y.words y.space ru 0).length + 0 ≤ 120000 by have h9 := HTOT.out; have h8 := congrArg List.length HFX.out; simp only [List.length_append, List.length_replicate, List.length_nil, List.length_cons] at h8; omega)
        have hrw : On w0 wc := below_then HW.out HSc.out.low
        have n15 := On.cell nd15
        have n16 := On.cell nd16
        have r1 := On.cell (On.cell HC1.out wc hrw)
        have HAL := Lib.hid (fun (W' : World) (hW' : On wc W') => pall_to (c := mm.c) (show linesR y.words y.space ru 0 = linesR y.words y.space ru 0 from rfl) HN9.out HIU.out hmn (HIW.out W' (below_then hrw hW')))
        go_wp2_with fail
        refine wp_region_held_drew (S := fun W' => On wc W') (by kernel_rfl) (On.refl _).drew (fun h0 => ?_)
        show wpAnyH _ _ _ _ _ 12 (Array.replicate 12 false) _ _
        refine wpAnyH_take (i := 0) (v := ?_) rfl (by kernel_rfl) (by kernel_rfl) (by kernel_rfl) (fun _ _ _ h => h) (Or.inl ⟨by rfl, ?_⟩) h0 ?_
        rotate_left
        · intro w hSw; (try dsimp only at hSw); go_simp; with_reducible rfl
        try simp only [Act.put, List.setIfInBounds_toArray, List.set_cons_zero, List.set_cons_succ, List.getElem_toArray, List.getElem_cons_succ, List.getElem_cons_zero]
        refine wpAnyH_take (i := 1) (v := ?_) rfl (by kernel_rfl) (by kernel_rfl) (by kernel_rfl) (fun _ _ _ h => h) (Or.inl ⟨by rfl, ?_⟩) h0 ?_
        rotate_left
        · intro w hSw; (try dsimp only at hSw); go_simp; with_reducible rfl
        try simp only [Act.put, List.setIfInBounds_toArray, List.set_cons_zero, List.set_cons_succ, List.getElem_toArray, List.getElem_cons_succ, List.getElem_cons_zero]
        refine wpAnyH_take (i := 2) (v := ?_) rfl (by kernel_rfl) (by kernel_rfl) (by kernel_rfl) (fun _ _ _ h => h) (Or.inl ⟨by rfl, ?_⟩) h0 ?_
        rotate_left
        · intro w hSw; (try dsimp only at hSw); go_simp; with_reducible rfl
        try simp only [Act.put, List.setIfInBounds_toArray, List.set_cons_zero, List.set_cons_succ, List.getElem_toArray, List.getElem_cons_succ, List.getElem_cons_zero]
        refine wpAnyH_take (i := 3) (v := ?_) rfl (by kernel_rfl) (by kernel_rfl) (by kernel_rfl) (fun _ _ _ h => h) (Or.inl ⟨by rfl, ?_⟩) h0 ?_
        rotate_left
        · intro w hSw; (try dsimp only at hSw); go_simp; with_reducible rfl
        try simp only [Act.put, List.setIfInBounds_toArray, List.set_cons_zero, List.set_cons_succ, List.getElem_toArray, List.getElem_cons_succ, List.getElem_cons_zero]
        refine wpAnyH_take (i := 4) (v := ?_) rfl (by kernel_rfl) (by kernel_rfl) (by kernel_rfl) (fun _ _ _ h => h) (Or.inl ⟨by rfl, ?_⟩) h0 ?_
        rotate_left
        · intro w hSw; (try dsimp only at hSw); go_simp; with_reducible rfl
        try simp only [Act.put, List.setIfInBounds_toArray, List.set_cons_zero, List.set_cons_succ, List.getElem_toArray, List.getElem_cons_succ, List.getElem_cons_zero]
        refine wpAnyH_take (i := 5) (v := ?_) rfl (by kernel_rfl) (by kernel_rfl) (by kernel_rfl) (fun _ _ _ h => h) (Or.inl ⟨by rfl, ?_⟩) h0 ?_
        rotate_left
        · intro w hSw; (try dsimp only at hSw); go_simp; with_reducible rfl
        try simp only [Act.put, List.setIfInBounds_toArray, List.set_cons_zero, List.set_cons_succ, List.getElem_toArray, List.getElem_cons_succ, List.getElem_cons_zero]
        refine wpAnyH_take (i := 6) (v := ?_) rfl (by kernel_rfl) (by kernel_rfl) (by kernel_rfl) (fun _ _ _ h => h) (Or.inl ⟨by rfl, ?_⟩) h0 ?_
        rotate_left
        · intro w hSw; (try dsimp only at hSw); go_simp; with_reducible rfl
        try simp only [Act.put, List.setIfInBounds_toArray, List.set_cons_zero, List.set_cons_succ, List.getElem_toArray, List.getElem_cons_succ, List.getElem_cons_zero]
        refine wpAnyH_take (i := 7) (v := ?_) rfl (by kernel_rfl) (by kernel_rfl) (by kernel_rfl) (fun _ _ _ h => h) (Or.inl ⟨by rfl, ?_⟩) h0 ?_
        rotate_left
        · intro w hSw; (try dsimp only at hSw); go_simp; with_reducible rfl
        try simp only [Act.put, List.setIfInBounds_toArray, List.set_cons_zero, List.set_cons_succ, List.getElem_toArray, List.getElem_cons_succ, List.getElem_cons_zero]
        refine wpAnyH_take (i := 8) (v := ?_) rfl (by kernel_rfl) (by kernel_rfl) (by kernel_rfl) (fun _ _ _ h => h) (Or.inl ⟨by rfl, ?_⟩) h0 ?_
        rotate_left
        · intro w hSw; (try dsimp only at hSw); go_simp; with_reducible rfl
        try simp only [Act.put, List.setIfInBounds_toArray, List.set_cons_zero, List.set_cons_succ, List.getElem_toArray, List.getElem_cons_succ, List.getElem_cons_zero]
        refine wpAnyH_ready (rs := [9]) (by kernel_rfl) (by simp) ?_
        refine AllReadyH.cons rfl (fun K hK => ?_) AllReadyH.nil
        go_simp
        refine (HAL.out _ h0).mono ?_
        rintro e' w6 ⟨Aq, nq, cq, rfl, hoq, hb⟩
        have HOQ := Lib.hid (On.step h0 hb)
        have HNQ := Lib.hid (show nq = (linesP y.words y.space ru 0).length by have h9 := (ownsRow_rows encRun_len (by decide) hoq).1; unfold linesR at h9; rw [List.length_map] at h9; exact h9.symm)
        clear hoq
        refine hK.out _ _ (On.step h0 hb) (fun h1 => ?_)
        clear hK K hb
        try simp only [Act.put, List.setIfInBounds_toArray, List.set_cons_zero, List.set_cons_succ, List.getElem_toArray, List.getElem_cons_succ, List.getElem_cons_zero]
        refine wpAnyH_take (i := 10) (v := ?_) rfl (by kernel_rfl) (by kernel_rfl) (by kernel_rfl) (fun _ _ _ h => h) (Or.inl ⟨by rfl, ?_⟩) h1 ?_
        rotate_left
        · intro w hSw; (try dsimp only at hSw); go_simp; with_reducible rfl
        try simp only [Act.put, List.setIfInBounds_toArray, List.set_cons_zero, List.set_cons_succ, List.getElem_toArray, List.getElem_cons_succ, List.getElem_cons_zero]
        refine wpAnyH_take (i := 11) (v := ?_) rfl (by kernel_rfl) (by kernel_rfl) (by kernel_rfl) (fun _ _ _ h => h) (Or.inl ⟨by rfl, ?_⟩) h1 ?_
        rotate_left
        · intro w hSw; (try dsimp only at hSw); go_simp; with_reducible rfl
        try simp only [Act.put, List.setIfInBounds_toArray, List.set_cons_zero, List.set_cons_succ, List.getElem_toArray, List.getElem_cons_succ, List.getElem_cons_zero]
        refine wpAnyH_done (by kernel_rfl) ?_ _
        have HS6 := Lib.hid (HSc.out.below HOQ.out)
        clear nd0 nd1 nd2 nd3 nd4 nd5 nd13 nd14 nd15 nd16 nd17 nd18 nd19 nl
        clear h0 h1 n15 n16 r1 HAL HOQ hrw
        go_wp2_with fail
        go_loopw [9, 12] (fun s9 s12 wq => ∃ (q : Nat) (A8 : Option Addr) (n8 c8 : Nat), s12 = .int .i64 (q : Int) ∧ s9 = .slice A8 n8 c8 ∧ q ≤ nq ∧ Hid (n8 = nx + q) ∧ Hid (Stn w NB mm wq (lx ++ List.replicate q ⟨4, y.line, 0⟩) A8 n8 c8)) (fun _ s12 _ => nq - (intOf s12).toNat)
        case atStart => exact ⟨0, Ac, nx, cc, rfl, rfl, Nat.zero_le _, Lib.hid rfl, Lib.hid (by rw [List.replicate_zero, List.append_nil]; exact HS6.out)⟩
        case round =>
          obtain ⟨q, A8, n8, c8, rfl, rfl, hqn, HN8, HSq⟩ := hrel
          have hlx := HSc.out.len
          by_cases hq : q < nq
          · have hq2 : (q : Int) < (nq : Int) := by omega
            have hwq : IntKind.i64.wrap ((q : Int) + 1) = (q : Int) + 1 := IntWalk.i64_in _ (by have := HNQ.out; have := HTX.out; omega)
            have hb8 : n8 ≤ 120000 := by have := HN8.out; have := HNQ.out; have := HTX.out; omega
            obtain ⟨⟨nd0, nd1, nd2, nd3, nd4, nd5, nd13⟩, ⟨nd14, nd15, nd16, nd17, nd18, nd19⟩, nl⟩ := nd_see HSH.out HSq.out.nb
            rw [hk] at nd0
            go_wp2_with ((with_reducible refine stop_dst 75 ?_ ?_); exact rfl)
            refine Stop.intro ?_
            have HP := Lib.hid (HSq.out.below ((Below.refl wr.heap.size wr).alloc (Nat.le_refl _) (.cells #[.int .i64 4, .int .i64 y.line, .int .i64 0] 102)))
            refine wpList_append_cells_any rfl (.tmp 70) (.tmp 74) _ rfl w.heap.size 102 q0 (.agg #[.int .i64 0, .int .i64 0, .int .i64 0]) 3 24 Tryz.underlying57 hq0 hy0 hy1 hy2 rfl (by decide) _ n8 _ rfl HP.out.own _ 1 1 _ rfl (cells_three wr _ _ _ _) (encSt_one ⟨4, y.line, 0⟩) (by unfold maxLen; omega) (by omega) (by have := HP.out.low.size; exact this) ?_
            intro Ar1 cr1 wr1 hown hg ha
            have HSr1 := Lib.hid (HP.out.push (new := [⟨4, y.line, 0⟩]) rfl (by rw [flat_one]; exact hown) hg ha)
            clear hown hg ha HP
            clear nd0 nd1 nd2 nd3 nd4 nd5 nd13 nd14 nd15 nd16 nd17 nd18 nd19 nl
            have HSr2 := Lib.hid (show Stn w NB mm wr1 (lx ++ List.replicate (q + 1) ⟨4, y.line, 0⟩) Ar1 (n8 + 1) cr1 by rw [List.replicate_succ', ← List.append_assoc]; exact HSr1.out)
            go_wp2_with fail
            go_roundw
            case rel => exact ⟨q + 1, Ar1, n8 + 1, cr1, by go_num, rfl, by omega, Lib.hid (by have := HN8.out; omega), HSr2⟩
            case measure => simp [intOf] <;> omega
          · have hqe : q = nq := by omega
            have hqg : (nq : Int) ≤ (q : Int) := by omega
            have HSz := Lib.hid (show Stn w NB mm wr (lx ++ List.replicate (linesP y.words y.space ru 0).length ⟨4, y.line, 0⟩) A8 n8 c8 by rw [← HNQ.out, ← hqe]; exact HSq.out)
            have hb8 : n8 ≤ 120000 := by have := HN8.out; have := HNQ.out; have := HTX.out; omega
            clear HSq
            obtain ⟨⟨nd0, nd1, nd2, nd3, nd4, nd5, nd13⟩, ⟨nd14, nd15, nd16, nd17, nd18, nd19⟩, nl⟩ := nd_see HSH.out HSz.out.nb
            rw [hk] at nd0
            go_wp2_with fail
            go_roundw
            case rel => exact ⟨nxt j y, ls ++ stpsE L wd (ev1 L j y), A8, n8, c8, by rw [HNJ.out], rfl, by have := HLJ.out; omega, HLJ.out.2, HC2, HEQ2, Lib.hid (by rw [← HFX.out, List.append_nil]; exact HSz.out.len), Lib.hid (by rw [← HFX.out, List.append_nil]; exact HSz.out.own), Lib.hid HSz.out.low⟩
            case measure => have := HNJ.out; have := HLJ.out; simp [intOf] <;> omega
      · have hev : ev1 L j y = [.leaf j] := by unfold ev1; rw [if_neg (by omega)]
        have hev2 : stpsE L wd (ev1 L j y) = leafT ru y := by rw [hev]; show stpE L wd (.leaf j) ++ [] = _; rw [List.append_nil, stpE_leaf HY.out, HRP.out]
        have HFX := Lib.hid (show ls ++ List.replicate (linesP y.words y.space ru 0).length ⟨4, y.line, 0⟩ ++ [] = ls ++ stpsE L wd (ev1 L j y) by rw [hev2]; unfold leafT; rw [if_pos hk, List.append_nil])
        clear hev hev2
        have HSc := HSN
        obtain ⟨⟨nd0, nd1, nd2, nd3, nd4, nd5, nd13⟩, ⟨nd14, nd15, nd16, nd17, nd18, nd19⟩, nl⟩ := nd_see HSH.out HSN.out.nb
        rw [hk] at nd0
        have HTX := Lib.hid (show ls.length + (linesP y.words y.space ru 0).length + 0 ≤ 120000 by have h9 := HTOT.out; have h8 := congrArg List.length HFX.out; simp only [List.length_append, List.length_replicate, List.length_nil, List.length_cons] at h8; omega)
        have hrw : On w0 V := below_then HW.out HSc.out.low
        have n15 := On.cell nd15
        have n16 := On.cell nd16
        have r1 := On.cell (On.cell HC1.out V hrw)
        have HAL := Lib.hid (fun (W' : World) (hW' : On V W') => pall_to (c := mm.c) (show linesR y.words y.space ru 0 = linesR y.words y.space ru 0 from rfl) HN9.out HIU.out hmn (HIW.out W' (below_then hrw hW')))
        go_wp2_with fail
        refine wp_region_held_drew (S := fun W' => On V W') (by kernel_rfl) (On.refl _).drew (fun h0 => ?_)
        show wpAnyH _ _ _ _ _ 12 (Array.replicate 12 false) _ _
        refine wpAnyH_take (i := 0) (v := ?_) rfl (by kernel_rfl) (by kernel_rfl) (by kernel_rfl) (fun _ _ _ h => h) (Or.inl ⟨by rfl, ?_⟩) h0 ?_
        rotate_left
        · intro w hSw; (try dsimp only at hSw); go_simp; with_reducible rfl
        try simp only [Act.put, List.setIfInBounds_toArray, List.set_cons_zero, List.set_cons_succ, List.getElem_toArray, List.getElem_cons_succ, List.getElem_cons_zero]
        refine wpAnyH_take (i := 1) (v := ?_) rfl (by kernel_rfl) (by kernel_rfl) (by kernel_rfl) (fun _ _ _ h => h) (Or.inl ⟨by rfl, ?_⟩) h0 ?_
        rotate_left
        · intro w hSw; (try dsimp only at hSw); go_simp; with_reducible rfl
        try simp only [Act.put, List.setIfInBounds_toArray, List.set_cons_zero, List.set_cons_succ, List.getElem_toArray, List.getElem_cons_succ, List.getElem_cons_zero]
        refine wpAnyH_take (i := 2) (v := ?_) rfl (by kernel_rfl) (by kernel_rfl) (by kernel_rfl) (fun _ _ _ h => h) (Or.inl ⟨by rfl, ?_⟩) h0 ?_
        rotate_left
        · intro w hSw; (try dsimp only at hSw); go_simp; with_reducible rfl
        try simp only [Act.put, List.setIfInBounds_toArray, List.set_cons_zero, List.set_cons_succ, List.getElem_toArray, List.getElem_cons_succ, List.getElem_cons_zero]
        refine wpAnyH_take (i := 3) (v := ?_) rfl (by kernel_rfl) (by kernel_rfl) (by kernel_rfl) (fun _ _ _ h => h) (Or.inl ⟨by rfl, ?_⟩) h0 ?_
        rotate_left
        · intro w hSw; (try dsimp only at hSw); go_simp; with_reducible rfl
        try simp only [Act.put, List.setIfInBounds_toArray, List.set_cons_zero, List.set_cons_succ, List.getElem_toArray, List.getElem_cons_succ, List.getElem_cons_zero]
        refine wpAnyH_take (i := 4) (v := ?_) rfl (by kernel_rfl) (by kernel_rfl) (by kernel_rfl) (fun _ _ _ h => h) (Or.inl ⟨by rfl, ?_⟩) h0 ?_
        rotate_left
        · intro w hSw; (try dsimp only at hSw); go_simp; with_reducible rfl
        try simp only [Act.put, List.setIfInBounds_toArray, List.set_cons_zero, List.set_cons_succ, List.getElem_toArray, List.getElem_cons_succ, List.getElem_cons_zero]
        refine wpAnyH_take (i := 5) (v := ?_) rfl (by kernel_rfl) (by kernel_rfl) (by kernel_rfl) (fun _ _ _ h => h) (Or.inl ⟨by rfl, ?_⟩) h0 ?_
        rotate_left
        · intro w hSw; (try dsimp only at hSw); go_simp; with_reducible rfl
        try simp only [Act.put, List.setIfInBounds_toArray, List.set_cons_zero, List.set_cons_succ, List.getElem_toArray, List.getElem_cons_succ, List.getElem_cons_zero]
        refine wpAnyH_take (i := 6) (v := ?_) rfl (by kernel_rfl) (by kernel_rfl) (by kernel_rfl) (fun _ _ _ h => h) (Or.inl ⟨by rfl, ?_⟩) h0 ?_
        rotate_left
        · intro w hSw; (try dsimp only at hSw); go_simp; with_reducible rfl
        try simp only [Act.put, List.setIfInBounds_toArray, List.set_cons_zero, List.set_cons_succ, List.getElem_toArray, List.getElem_cons_succ, List.getElem_cons_zero]
        refine wpAnyH_take (i := 7) (v := ?_) rfl (by kernel_rfl) (by kernel_rfl) (by kernel_rfl) (fun _ _ _ h => h) (Or.inl ⟨by rfl, ?_⟩) h0 ?_
        rotate_left
        · intro w hSw; (try dsimp only at hSw); go_simp; with_reducible rfl
        try simp only [Act.put, List.setIfInBounds_toArray, List.set_cons_zero, List.set_cons_succ, List.getElem_toArray, List.getElem_cons_succ, List.getElem_cons_zero]
        refine wpAnyH_take (i := 8) (v := ?_) rfl (by kernel_rfl) (by kernel_rfl) (by kernel_rfl) (fun _ _ _ h => h) (Or.inl ⟨by rfl, ?_⟩) h0 ?_
        rotate_left
        · intro w hSw; (try dsimp only at hSw); go_simp; with_reducible rfl
        try simp only [Act.put, List.setIfInBounds_toArray, List.set_cons_zero, List.set_cons_succ, List.getElem_toArray, List.getElem_cons_succ, List.getElem_cons_zero]
        refine wpAnyH_ready (rs := [9]) (by kernel_rfl) (by simp) ?_
        refine AllReadyH.cons rfl (fun K hK => ?_) AllReadyH.nil
        go_simp
        refine (HAL.out _ h0).mono ?_
        rintro e' w6 ⟨Aq, nq, cq, rfl, hoq, hb⟩
        have HOQ := Lib.hid (On.step h0 hb)
        have HNQ := Lib.hid (show nq = (linesP y.words y.space ru 0).length by have h9 := (ownsRow_rows encRun_len (by decide) hoq).1; unfold linesR at h9; rw [List.length_map] at h9; exact h9.symm)
        clear hoq
        refine hK.out _ _ (On.step h0 hb) (fun h1 => ?_)
        clear hK K hb
        try simp only [Act.put, List.setIfInBounds_toArray, List.set_cons_zero, List.set_cons_succ, List.getElem_toArray, List.getElem_cons_succ, List.getElem_cons_zero]
        refine wpAnyH_take (i := 10) (v := ?_) rfl (by kernel_rfl) (by kernel_rfl) (by kernel_rfl) (fun _ _ _ h => h) (Or.inl ⟨by rfl, ?_⟩) h1 ?_
        rotate_left
        · intro w hSw; (try dsimp only at hSw); go_simp; with_reducible rfl
        try simp only [Act.put, List.setIfInBounds_toArray, List.set_cons_zero, List.set_cons_succ, List.getElem_toArray, List.getElem_cons_succ, List.getElem_cons_zero]
        refine wpAnyH_take (i := 11) (v := ?_) rfl (by kernel_rfl) (by kernel_rfl) (by kernel_rfl) (fun _ _ _ h => h) (Or.inl ⟨by rfl, ?_⟩) h1 ?_
        rotate_left
        · intro w hSw; (try dsimp only at hSw); go_simp; with_reducible rfl
        try simp only [Act.put, List.setIfInBounds_toArray, List.set_cons_zero, List.set_cons_succ, List.getElem_toArray, List.getElem_cons_succ, List.getElem_cons_zero]
        refine wpAnyH_done (by kernel_rfl) ?_ _
        have HS6 := Lib.hid (HSc.out.below HOQ.out)
        clear nd0 nd1 nd2 nd3 nd4 nd5 nd13 nd14 nd15 nd16 nd17 nd18 nd19 nl
        clear h0 h1 n15 n16 r1 HAL HOQ hrw
        go_wp2_with fail
        go_loopw [9, 12] (fun s9 s12 wq => ∃ (q : Nat) (A8 : Option Addr) (n8 c8 : Nat), s12 = .int .i64 (q : Int) ∧ s9 = .slice A8 n8 c8 ∧ q ≤ nq ∧ Hid (n8 = n + q) ∧ Hid (Stn w NB mm wq (ls ++ List.replicate q ⟨4, y.line, 0⟩) A8 n8 c8)) (fun _ s12 _ => nq - (intOf s12).toNat)
        case atStart => exact ⟨0, A, n, c, rfl, rfl, Nat.zero_le _, Lib.hid rfl, Lib.hid (by rw [List.replicate_zero, List.append_nil]; exact HS6.out)⟩
        case round =>
          obtain ⟨q, A8, n8, c8, rfl, rfl, hqn, HN8, HSq⟩ := hrel
          have hlx := HSc.out.len
          by_cases hq : q < nq
          · have hq2 : (q : Int) < (nq : Int) := by omega
            have hwq : IntKind.i64.wrap ((q : Int) + 1) = (q : Int) + 1 := IntWalk.i64_in _ (by have := HNQ.out; have := HTX.out; omega)
            have hb8 : n8 ≤ 120000 := by have := HN8.out; have := HNQ.out; have := HTX.out; omega
            obtain ⟨⟨nd0, nd1, nd2, nd3, nd4, nd5, nd13⟩, ⟨nd14, nd15, nd16, nd17, nd18, nd19⟩, nl⟩ := nd_see HSH.out HSq.out.nb
            rw [hk] at nd0
            go_wp2_with ((with_reducible refine stop_dst 75 ?_ ?_); exact rfl)
            refine Stop.intro ?_
            have HP := Lib.hid (HSq.out.below ((Below.refl wr.heap.size wr).alloc (Nat.le_refl _) (.cells #[.int .i64 4, .int .i64 y.line, .int .i64 0] 102)))
            refine wpList_append_cells_any rfl (.tmp 70) (.tmp 74) _ rfl w.heap.size 102 q0 (.agg #[.int .i64 0, .int .i64 0, .int .i64 0]) 3 24 Tryz.underlying57 hq0 hy0 hy1 hy2 rfl (by decide) _ n8 _ rfl HP.out.own _ 1 1 _ rfl (cells_three wr _ _ _ _) (encSt_one ⟨4, y.line, 0⟩) (by unfold maxLen; omega) (by omega) (by have := HP.out.low.size; exact this) ?_
            intro Ar1 cr1 wr1 hown hg ha
            have HSr1 := Lib.hid (HP.out.push (new := [⟨4, y.line, 0⟩]) rfl (by rw [flat_one]; exact hown) hg ha)
            clear hown hg ha HP
            clear nd0 nd1 nd2 nd3 nd4 nd5 nd13 nd14 nd15 nd16 nd17 nd18 nd19 nl
            have HSr2 := Lib.hid (show Stn w NB mm wr1 (ls ++ List.replicate (q + 1) ⟨4, y.line, 0⟩) Ar1 (n8 + 1) cr1 by rw [List.replicate_succ', ← List.append_assoc]; exact HSr1.out)
            go_wp2_with fail
            go_roundw
            case rel => exact ⟨q + 1, Ar1, n8 + 1, cr1, by go_num, rfl, by omega, Lib.hid (by have := HN8.out; omega), HSr2⟩
            case measure => simp [intOf] <;> omega
          · have hqe : q = nq := by omega
            have hqg : (nq : Int) ≤ (q : Int) := by omega
            have HSz := Lib.hid (show Stn w NB mm wr (ls ++ List.replicate (linesP y.words y.space ru 0).length ⟨4, y.line, 0⟩) A8 n8 c8 by rw [← HNQ.out, ← hqe]; exact HSq.out)
            have hb8 : n8 ≤ 120000 := by have := HN8.out; have := HNQ.out; have := HTX.out; omega
            clear HSq
            obtain ⟨⟨nd0, nd1, nd2, nd3, nd4, nd5, nd13⟩, ⟨nd14, nd15, nd16, nd17, nd18, nd19⟩, nl⟩ := nd_see HSH.out HSz.out.nb
            rw [hk] at nd0
            go_wp2_with fail
            go_roundw
            case rel => exact ⟨nxt j y, ls ++ stpsE L wd (ev1 L j y), A8, n8, c8, by rw [HNJ.out], rfl, by have := HLJ.out; omega, HLJ.out.2, HC2, HEQ2, Lib.hid (by rw [← HFX.out, List.append_nil]; exact HSz.out.len), Lib.hid (by rw [← HFX.out, List.append_nil]; exact HSz.out.own), Lib.hid HSz.out.low⟩
            case measure => have := HNJ.out; have := HLJ.out; simp [intOf] <;> omega
      · have hev : ev1 L j y = [.leaf j] := by unfold ev1; rw [if_neg (by omega)]
        have hev2 : stpsE L wd (ev1 L j y) = leafT ru y := by rw [hev]; show stpE L wd (.leaf j) ++ [] = _; rw [List.append_nil, stpE_leaf HY.out, HRP.out]
        have HFX := Lib.hid (show ls ++ List.replicate (linesP y.words y.space ru 0).length ⟨4, y.line, 0⟩ ++ [⟨4, y.h, 0⟩] = ls ++ stpsE L wd (ev1 L j y) by rw [hev2, no_lines HYF.out (by omega)]; unfold leafT; rw [if_neg (by omega), if_pos hk]; simp)
        clear hev hev2
        have HSc := HSN
        obtain ⟨⟨nd0, nd1, nd2, nd3, nd4, nd5, nd13⟩, ⟨nd14, nd15, nd16, nd17, nd18, nd19⟩, nl⟩ := nd_see HSH.out HSN.out.nb
        rw [hk] at nd0
        have HTX := Lib.hid (show ls.length + (linesP y.words y.space ru 0).length + 1 ≤ 120000 by have h9 := HTOT.out; have h8 := congrArg List.length HFX.out; simp only [List.length_append, List.length_replicate, List.length_nil, List.length_cons] at h8; omega)
        have hrw : On w0 V := below_then HW.out HSc.out.low
        have n15 := On.cell nd15
        have n16 := On.cell nd16
        have r1 := On.cell (On.cell HC1.out V hrw)
        have HAL := Lib.hid (fun (W' : World) (hW' : On V W') => pall_to (c := mm.c) (show linesR y.words y.space ru 0 = linesR y.words y.space ru 0 from rfl) HN9.out HIU.out hmn (HIW.out W' (below_then hrw hW')))
        go_wp2_with fail
        refine wp_region_held_drew (S := fun W' => On V W') (by kernel_rfl) (On.refl _).drew (fun h0 => ?_)
        show wpAnyH _ _ _ _ _ 12 (Array.replicate 12 false) _ _
        refine wpAnyH_take (i := 0) (v := ?_) rfl (by kernel_rfl) (by kernel_rfl) (by kernel_rfl) (fun _ _ _ h => h) (Or.inl ⟨by rfl, ?_⟩) h0 ?_
        rotate_left
        · intro w hSw; (try dsimp only at hSw); go_simp; with_reducible rfl
        try simp only [Act.put, List.setIfInBounds_toArray, List.set_cons_zero, List.set_cons_succ, List.getElem_toArray, List.getElem_cons_succ, List.getElem_cons_zero]
        refine wpAnyH_take (i := 1) (v := ?_) rfl (by kernel_rfl) (by kernel_rfl) (by kernel_rfl) (fun _ _ _ h => h) (Or.inl ⟨by rfl, ?_⟩) h0 ?_
        rotate_left
        · intro w hSw; (try dsimp only at hSw); go_simp; with_reducible rfl
        try simp only [Act.put, List.setIfInBounds_toArray, List.set_cons_zero, List.set_cons_succ, List.getElem_toArray, List.getElem_cons_succ, List.getElem_cons_zero]
        refine wpAnyH_take (i := 2) (v := ?_) rfl (by kernel_rfl) (by kernel_rfl) (by kernel_rfl) (fun _ _ _ h => h) (Or.inl ⟨by rfl, ?_⟩) h0 ?_
        rotate_left
        · intro w hSw; (try dsimp only at hSw); go_simp; with_reducible rfl
        try simp only [Act.put, List.setIfInBounds_toArray, List.set_cons_zero, List.set_cons_succ, List.getElem_toArray, List.getElem_cons_succ, List.getElem_cons_zero]
        refine wpAnyH_take (i := 3) (v := ?_) rfl (by kernel_rfl) (by kernel_rfl) (by kernel_rfl) (fun _ _ _ h => h) (Or.inl ⟨by rfl, ?_⟩) h0 ?_
        rotate_left
        · intro w hSw; (try dsimp only at hSw); go_simp; with_reducible rfl
        try simp only [Act.put, List.setIfInBounds_toArray, List.set_cons_zero, List.set_cons_succ, List.getElem_toArray, List.getElem_cons_succ, List.getElem_cons_zero]
        refine wpAnyH_take (i := 4) (v := ?_) rfl (by kernel_rfl) (by kernel_rfl) (by kernel_rfl) (fun _ _ _ h => h) (Or.inl ⟨by rfl, ?_⟩) h0 ?_
        rotate_left
        · intro w hSw; (try dsimp only at hSw); go_simp; with_reducible rfl
        try simp only [Act.put, List.setIfInBounds_toArray, List.set_cons_zero, List.set_cons_succ, List.getElem_toArray, List.getElem_cons_succ, List.getElem_cons_zero]
        refine wpAnyH_take (i := 5) (v := ?_) rfl (by kernel_rfl) (by kernel_rfl) (by kernel_rfl) (fun _ _ _ h => h) (Or.inl ⟨by rfl, ?_⟩) h0 ?_
        rotate_left
        · intro w hSw; (try dsimp only at hSw); go_simp; with_reducible rfl
        try simp only [Act.put, List.setIfInBounds_toArray, List.set_cons_zero, List.set_cons_succ, List.getElem_toArray, List.getElem_cons_succ, List.getElem_cons_zero]
        refine wpAnyH_take (i := 6) (v := ?_) rfl (by kernel_rfl) (by kernel_rfl) (by kernel_rfl) (fun _ _ _ h => h) (Or.inl ⟨by rfl, ?_⟩) h0 ?_
        rotate_left
        · intro w hSw; (try dsimp only at hSw); go_simp; with_reducible rfl
        try simp only [Act.put, List.setIfInBounds_toArray, List.set_cons_zero, List.set_cons_succ, List.getElem_toArray, List.getElem_cons_succ, List.getElem_cons_zero]
        refine wpAnyH_take (i := 7) (v := ?_) rfl (by kernel_rfl) (by kernel_rfl) (by kernel_rfl) (fun _ _ _ h => h) (Or.inl ⟨by rfl, ?_⟩) h0 ?_
        rotate_left
        · intro w hSw; (try dsimp only at hSw); go_simp; with_reducible rfl
        try simp only [Act.put, List.setIfInBounds_toArray, List.set_cons_zero, List.set_cons_succ, List.getElem_toArray, List.getElem_cons_succ, List.getElem_cons_zero]
        refine wpAnyH_take (i := 8) (v := ?_) rfl (by kernel_rfl) (by kernel_rfl) (by kernel_rfl) (fun _ _ _ h => h) (Or.inl ⟨by rfl, ?_⟩) h0 ?_
        rotate_left
        · intro w hSw; (try dsimp only at hSw); go_simp; with_reducible rfl
        try simp only [Act.put, List.setIfInBounds_toArray, List.set_cons_zero, List.set_cons_succ, List.getElem_toArray, List.getElem_cons_succ, List.getElem_cons_zero]
        refine wpAnyH_ready (rs := [9]) (by kernel_rfl) (by simp) ?_
        refine AllReadyH.cons rfl (fun K hK => ?_) AllReadyH.nil
        go_simp
        refine (HAL.out _ h0).mono ?_
        rintro e' w6 ⟨Aq, nq, cq, rfl, hoq, hb⟩
        have HOQ := Lib.hid (On.step h0 hb)
        have HNQ := Lib.hid (show nq = (linesP y.words y.space ru 0).length by have h9 := (ownsRow_rows encRun_len (by decide) hoq).1; unfold linesR at h9; rw [List.length_map] at h9; exact h9.symm)
        clear hoq
        refine hK.out _ _ (On.step h0 hb) (fun h1 => ?_)
        clear hK K hb
        try simp only [Act.put, List.setIfInBounds_toArray, List.set_cons_zero, List.set_cons_succ, List.getElem_toArray, List.getElem_cons_succ, List.getElem_cons_zero]
        refine wpAnyH_take (i := 10) (v := ?_) rfl (by kernel_rfl) (by kernel_rfl) (by kernel_rfl) (fun _ _ _ h => h) (Or.inl ⟨by rfl, ?_⟩) h1 ?_
        rotate_left
        · intro w hSw; (try dsimp only at hSw); go_simp; with_reducible rfl
        try simp only [Act.put, List.setIfInBounds_toArray, List.set_cons_zero, List.set_cons_succ, List.getElem_toArray, List.getElem_cons_succ, List.getElem_cons_zero]
        refine wpAnyH_take (i := 11) (v := ?_) rfl (by kernel_rfl) (by kernel_rfl) (by kernel_rfl) (fun _ _ _ h => h) (Or.inl ⟨by rfl, ?_⟩) h1 ?_
        rotate_left
        · intro w hSw; (try dsimp only at hSw); go_simp; with_reducible rfl
        try simp only [Act.put, List.setIfInBounds_toArray, List.set_cons_zero, List.set_cons_succ, List.getElem_toArray, List.getElem_cons_succ, List.getElem_cons_zero]
        refine wpAnyH_done (by kernel_rfl) ?_ _
        have HS6 := Lib.hid (HSc.out.below HOQ.out)
        clear nd0 nd1 nd2 nd3 nd4 nd5 nd13 nd14 nd15 nd16 nd17 nd18 nd19 nl
        clear h0 h1 n15 n16 r1 HAL HOQ hrw
        go_wp2_with fail
        go_loopw [9, 12] (fun s9 s12 wq => ∃ (q : Nat) (A8 : Option Addr) (n8 c8 : Nat), s12 = .int .i64 (q : Int) ∧ s9 = .slice A8 n8 c8 ∧ q ≤ nq ∧ Hid (n8 = n + q) ∧ Hid (Stn w NB mm wq (ls ++ List.replicate q ⟨4, y.line, 0⟩) A8 n8 c8)) (fun _ s12 _ => nq - (intOf s12).toNat)
        case atStart => exact ⟨0, A, n, c, rfl, rfl, Nat.zero_le _, Lib.hid rfl, Lib.hid (by rw [List.replicate_zero, List.append_nil]; exact HS6.out)⟩
        case round =>
          obtain ⟨q, A8, n8, c8, rfl, rfl, hqn, HN8, HSq⟩ := hrel
          have hlx := HSc.out.len
          by_cases hq : q < nq
          · have hq2 : (q : Int) < (nq : Int) := by omega
            have hwq : IntKind.i64.wrap ((q : Int) + 1) = (q : Int) + 1 := IntWalk.i64_in _ (by have := HNQ.out; have := HTX.out; omega)
            have hb8 : n8 ≤ 120000 := by have := HN8.out; have := HNQ.out; have := HTX.out; omega
            obtain ⟨⟨nd0, nd1, nd2, nd3, nd4, nd5, nd13⟩, ⟨nd14, nd15, nd16, nd17, nd18, nd19⟩, nl⟩ := nd_see HSH.out HSq.out.nb
            rw [hk] at nd0
            go_wp2_with ((with_reducible refine stop_dst 75 ?_ ?_); exact rfl)
            refine Stop.intro ?_
            have HP := Lib.hid (HSq.out.below ((Below.refl wr.heap.size wr).alloc (Nat.le_refl _) (.cells #[.int .i64 4, .int .i64 y.line, .int .i64 0] 102)))
            refine wpList_append_cells_any rfl (.tmp 70) (.tmp 74) _ rfl w.heap.size 102 q0 (.agg #[.int .i64 0, .int .i64 0, .int .i64 0]) 3 24 Tryz.underlying57 hq0 hy0 hy1 hy2 rfl (by decide) _ n8 _ rfl HP.out.own _ 1 1 _ rfl (cells_three wr _ _ _ _) (encSt_one ⟨4, y.line, 0⟩) (by unfold maxLen; omega) (by omega) (by have := HP.out.low.size; exact this) ?_
            intro Ar1 cr1 wr1 hown hg ha
            have HSr1 := Lib.hid (HP.out.push (new := [⟨4, y.line, 0⟩]) rfl (by rw [flat_one]; exact hown) hg ha)
            clear hown hg ha HP
            clear nd0 nd1 nd2 nd3 nd4 nd5 nd13 nd14 nd15 nd16 nd17 nd18 nd19 nl
            have HSr2 := Lib.hid (show Stn w NB mm wr1 (ls ++ List.replicate (q + 1) ⟨4, y.line, 0⟩) Ar1 (n8 + 1) cr1 by rw [List.replicate_succ', ← List.append_assoc]; exact HSr1.out)
            go_wp2_with fail
            go_roundw
            case rel => exact ⟨q + 1, Ar1, n8 + 1, cr1, by go_num, rfl, by omega, Lib.hid (by have := HN8.out; omega), HSr2⟩
            case measure => simp [intOf] <;> omega
          · have hqe : q = nq := by omega
            have hqg : (nq : Int) ≤ (q : Int) := by omega
            have HSz := Lib.hid (show Stn w NB mm wr (ls ++ List.replicate (linesP y.words y.space ru 0).length ⟨4, y.line, 0⟩) A8 n8 c8 by rw [← HNQ.out, ← hqe]; exact HSq.out)
            have hb8 : n8 ≤ 120000 := by have := HN8.out; have := HNQ.out; have := HTX.out; omega
            clear HSq
            obtain ⟨⟨nd0, nd1, nd2, nd3, nd4, nd5, nd13⟩, ⟨nd14, nd15, nd16, nd17, nd18, nd19⟩, nl⟩ := nd_see HSH.out HSz.out.nb
            rw [hk] at nd0
            go_wp2_with ((with_reducible refine stop_dst 84 ?_ ?_); exact rfl)
            refine Stop.intro ?_
            have HP := Lib.hid (HSz.out.below ((Below.refl wr.heap.size wr).alloc (Nat.le_refl _) (.cells #[.int .i64 4, .int .i64 y.h, .int .i64 0] 102)))
            refine wpList_append_cells_any rfl (.tmp 79) (.tmp 83) _ rfl w.heap.size 102 q0 (.agg #[.int .i64 0, .int .i64 0, .int .i64 0]) 3 24 Tryz.underlying57 hq0 hy0 hy1 hy2 rfl (by decide) _ n8 _ rfl HP.out.own _ 1 1 _ rfl (cells_three wr _ _ _ _) (encSt_one ⟨4, y.h, 0⟩) (by unfold maxLen; omega) (by omega) (by have := HP.out.low.size; exact this) ?_
            intro At ct wt hown hg ha
            have HSt := Lib.hid (HP.out.push (new := [⟨4, y.h, 0⟩]) rfl (by rw [flat_one]; exact hown) hg ha)
            clear hown hg ha HP
            clear nd0 nd1 nd2 nd3 nd4 nd5 nd13 nd14 nd15 nd16 nd17 nd18 nd19 nl
            obtain ⟨⟨nd0, nd1, nd2, nd3, nd4, nd5, nd13⟩, ⟨nd14, nd15, nd16, nd17, nd18, nd19⟩, nl⟩ := nd_see HSH.out HSt.out.nb
            rw [hk] at nd0
            go_wp2_with fail
            go_roundw
            case rel => exact ⟨nxt j y, ls ++ stpsE L wd (ev1 L j y), At, n8 + 1, ct, by rw [HNJ.out], rfl, by have := HLJ.out; omega, HLJ.out.2, HC2, HEQ2, Lib.hid (by rw [← HFX.out]; exact HSt.out.len), Lib.hid (by rw [← HFX.out]; exact HSt.out.own), Lib.hid HSt.out.low⟩
            case measure => have := HNJ.out; have := HLJ.out; simp [intOf] <;> omega
      · have hev : ev1 L j y = [.leaf j] := by unfold ev1; rw [if_neg (by omega)]
        have hev2 : stpsE L wd (ev1 L j y) = leafT ru y := by rw [hev]; show stpE L wd (.leaf j) ++ [] = _; rw [List.append_nil, stpE_leaf HY.out, HRP.out]
        have HFX := Lib.hid (show ls ++ List.replicate (linesP y.words y.space ru 0).length ⟨4, y.line, 0⟩ ++ [] = ls ++ stpsE L wd (ev1 L j y) by rw [hev2, no_lines HYF.out (by omega)]; unfold leafT; rw [if_neg (by omega), if_neg (by omega)]; simp)
        clear hev hev2
        have HSc := HSN
        obtain ⟨⟨nd0, nd1, nd2, nd3, nd4, nd5, nd13⟩, ⟨nd14, nd15, nd16, nd17, nd18, nd19⟩, nl⟩ := nd_see HSH.out HSN.out.nb
        rw [hk] at nd0
        have HTX := Lib.hid (show ls.length + (linesP y.words y.space ru 0).length + 0 ≤ 120000 by have h9 := HTOT.out; have h8 := congrArg List.length HFX.out; simp only [List.length_append, List.length_replicate, List.length_nil, List.length_cons] at h8; omega)
        have hrw : On w0 V := below_then HW.out HSc.out.low
        have n15 := On.cell nd15
        have n16 := On.cell nd16
        have r1 := On.cell (On.cell HC1.out V hrw)
        have HAL := Lib.hid (fun (W' : World) (hW' : On V W') => pall_to (c := mm.c) (show linesR y.words y.space ru 0 = linesR y.words y.space ru 0 from rfl) HN9.out HIU.out hmn (HIW.out W' (below_then hrw hW')))
        go_wp2_with fail
        refine wp_region_held_drew (S := fun W' => On V W') (by kernel_rfl) (On.refl _).drew (fun h0 => ?_)
        show wpAnyH _ _ _ _ _ 12 (Array.replicate 12 false) _ _
        refine wpAnyH_take (i := 0) (v := ?_) rfl (by kernel_rfl) (by kernel_rfl) (by kernel_rfl) (fun _ _ _ h => h) (Or.inl ⟨by rfl, ?_⟩) h0 ?_
        rotate_left
        · intro w hSw; (try dsimp only at hSw); go_simp; with_reducible rfl
        try simp only [Act.put, List.setIfInBounds_toArray, List.set_cons_zero, List.set_cons_succ, List.getElem_toArray, List.getElem_cons_succ, List.getElem_cons_zero]
        refine wpAnyH_take (i := 1) (v := ?_) rfl (by kernel_rfl) (by kernel_rfl) (by kernel_rfl) (fun _ _ _ h => h) (Or.inl ⟨by rfl, ?_⟩) h0 ?_
        rotate_left
        · intro w hSw; (try dsimp only at hSw); go_simp; with_reducible rfl
        try simp only [Act.put, List.setIfInBounds_toArray, List.set_cons_zero, List.set_cons_succ, List.getElem_toArray, List.getElem_cons_succ, List.getElem_cons_zero]
        refine wpAnyH_take (i := 2) (v := ?_) rfl (by kernel_rfl) (by kernel_rfl) (by kernel_rfl) (fun _ _ _ h => h) (Or.inl ⟨by rfl, ?_⟩) h0 ?_
        rotate_left
        · intro w hSw; (try dsimp only at hSw); go_simp; with_reducible rfl
        try simp only [Act.put, List.setIfInBounds_toArray, List.set_cons_zero, List.set_cons_succ, List.getElem_toArray, List.getElem_cons_succ, List.getElem_cons_zero]
        refine wpAnyH_take (i := 3) (v := ?_) rfl (by kernel_rfl) (by kernel_rfl) (by kernel_rfl) (fun _ _ _ h => h) (Or.inl ⟨by rfl, ?_⟩) h0 ?_
        rotate_left
        · intro w hSw; (try dsimp only at hSw); go_simp; with_reducible rfl
        try simp only [Act.put, List.setIfInBounds_toArray, List.set_cons_zero, List.set_cons_succ, List.getElem_toArray, List.getElem_cons_succ, List.getElem_cons_zero]
        refine wpAnyH_take (i := 4) (v := ?_) rfl (by kernel_rfl) (by kernel_rfl) (by kernel_rfl) (fun _ _ _ h => h) (Or.inl ⟨by rfl, ?_⟩) h0 ?_
        rotate_left
        · intro w hSw; (try dsimp only at hSw); go_simp; with_reducible rfl
        try simp only [Act.put, List.setIfInBounds_toArray, List.set_cons_zero, List.set_cons_succ, List.getElem_toArray, List.getElem_cons_succ, List.getElem_cons_zero]
        refine wpAnyH_take (i := 5) (v := ?_) rfl (by kernel_rfl) (by kernel_rfl) (by kernel_rfl) (fun _ _ _ h => h) (Or.inl ⟨by rfl, ?_⟩) h0 ?_
        rotate_left
        · intro w hSw; (try dsimp only at hSw); go_simp; with_reducible rfl
        try simp only [Act.put, List.setIfInBounds_toArray, List.set_cons_zero, List.set_cons_succ, List.getElem_toArray, List.getElem_cons_succ, List.getElem_cons_zero]
        refine wpAnyH_take (i := 6) (v := ?_) rfl (by kernel_rfl) (by kernel_rfl) (by kernel_rfl) (fun _ _ _ h => h) (Or.inl ⟨by rfl, ?_⟩) h0 ?_
        rotate_left
        · intro w hSw; (try dsimp only at hSw); go_simp; with_reducible rfl
        try simp only [Act.put, List.setIfInBounds_toArray, List.set_cons_zero, List.set_cons_succ, List.getElem_toArray, List.getElem_cons_succ, List.getElem_cons_zero]
        refine wpAnyH_take (i := 7) (v := ?_) rfl (by kernel_rfl) (by kernel_rfl) (by kernel_rfl) (fun _ _ _ h => h) (Or.inl ⟨by rfl, ?_⟩) h0 ?_
        rotate_left
        · intro w hSw; (try dsimp only at hSw); go_simp; with_reducible rfl
        try simp only [Act.put, List.setIfInBounds_toArray, List.set_cons_zero, List.set_cons_succ, List.getElem_toArray, List.getElem_cons_succ, List.getElem_cons_zero]
        refine wpAnyH_take (i := 8) (v := ?_) rfl (by kernel_rfl) (by kernel_rfl) (by kernel_rfl) (fun _ _ _ h => h) (Or.inl ⟨by rfl, ?_⟩) h0 ?_
        rotate_left
        · intro w hSw; (try dsimp only at hSw); go_simp; with_reducible rfl
        try simp only [Act.put, List.setIfInBounds_toArray, List.set_cons_zero, List.set_cons_succ, List.getElem_toArray, List.getElem_cons_succ, List.getElem_cons_zero]
        refine wpAnyH_ready (rs := [9]) (by kernel_rfl) (by simp) ?_
        refine AllReadyH.cons rfl (fun K hK => ?_) AllReadyH.nil
        go_simp
        refine (HAL.out _ h0).mono ?_
        rintro e' w6 ⟨Aq, nq, cq, rfl, hoq, hb⟩
        have HOQ := Lib.hid (On.step h0 hb)
        have HNQ := Lib.hid (show nq = (linesP y.words y.space ru 0).length by have h9 := (ownsRow_rows encRun_len (by decide) hoq).1; unfold linesR at h9; rw [List.length_map] at h9; exact h9.symm)
        clear hoq
        refine hK.out _ _ (On.step h0 hb) (fun h1 => ?_)
        clear hK K hb
        try simp only [Act.put, List.setIfInBounds_toArray, List.set_cons_zero, List.set_cons_succ, List.getElem_toArray, List.getElem_cons_succ, List.getElem_cons_zero]
        refine wpAnyH_take (i := 10) (v := ?_) rfl (by kernel_rfl) (by kernel_rfl) (by kernel_rfl) (fun _ _ _ h => h) (Or.inl ⟨by rfl, ?_⟩) h1 ?_
        rotate_left
        · intro w hSw; (try dsimp only at hSw); go_simp; with_reducible rfl
        try simp only [Act.put, List.setIfInBounds_toArray, List.set_cons_zero, List.set_cons_succ, List.getElem_toArray, List.getElem_cons_succ, List.getElem_cons_zero]
        refine wpAnyH_take (i := 11) (v := ?_) rfl (by kernel_rfl) (by kernel_rfl) (by kernel_rfl) (fun _ _ _ h => h) (Or.inl ⟨by rfl, ?_⟩) h1 ?_
        rotate_left
        · intro w hSw; (try dsimp only at hSw); go_simp; with_reducible rfl
        try simp only [Act.put, List.setIfInBounds_toArray, List.set_cons_zero, List.set_cons_succ, List.getElem_toArray, List.getElem_cons_succ, List.getElem_cons_zero]
        refine wpAnyH_done (by kernel_rfl) ?_ _
        have HS6 := Lib.hid (HSc.out.below HOQ.out)
        clear nd0 nd1 nd2 nd3 nd4 nd5 nd13 nd14 nd15 nd16 nd17 nd18 nd19 nl
        clear h0 h1 n15 n16 r1 HAL HOQ hrw
        go_wp2_with fail
        go_loopw [9, 12] (fun s9 s12 wq => ∃ (q : Nat) (A8 : Option Addr) (n8 c8 : Nat), s12 = .int .i64 (q : Int) ∧ s9 = .slice A8 n8 c8 ∧ q ≤ nq ∧ Hid (n8 = n + q) ∧ Hid (Stn w NB mm wq (ls ++ List.replicate q ⟨4, y.line, 0⟩) A8 n8 c8)) (fun _ s12 _ => nq - (intOf s12).toNat)
        case atStart => exact ⟨0, A, n, c, rfl, rfl, Nat.zero_le _, Lib.hid rfl, Lib.hid (by rw [List.replicate_zero, List.append_nil]; exact HS6.out)⟩
        case round =>
          obtain ⟨q, A8, n8, c8, rfl, rfl, hqn, HN8, HSq⟩ := hrel
          have hlx := HSc.out.len
          by_cases hq : q < nq
          · have hq2 : (q : Int) < (nq : Int) := by omega
            have hwq : IntKind.i64.wrap ((q : Int) + 1) = (q : Int) + 1 := IntWalk.i64_in _ (by have := HNQ.out; have := HTX.out; omega)
            have hb8 : n8 ≤ 120000 := by have := HN8.out; have := HNQ.out; have := HTX.out; omega
            obtain ⟨⟨nd0, nd1, nd2, nd3, nd4, nd5, nd13⟩, ⟨nd14, nd15, nd16, nd17, nd18, nd19⟩, nl⟩ := nd_see HSH.out HSq.out.nb
            rw [hk] at nd0
            go_wp2_with ((with_reducible refine stop_dst 75 ?_ ?_); exact rfl)
            refine Stop.intro ?_
            have HP := Lib.hid (HSq.out.below ((Below.refl wr.heap.size wr).alloc (Nat.le_refl _) (.cells #[.int .i64 4, .int .i64 y.line, .int .i64 0] 102)))
            refine wpList_append_cells_any rfl (.tmp 70) (.tmp 74) _ rfl w.heap.size 102 q0 (.agg #[.int .i64 0, .int .i64 0, .int .i64 0]) 3 24 Tryz.underlying57 hq0 hy0 hy1 hy2 rfl (by decide) _ n8 _ rfl HP.out.own _ 1 1 _ rfl (cells_three wr _ _ _ _) (encSt_one ⟨4, y.line, 0⟩) (by unfold maxLen; omega) (by omega) (by have := HP.out.low.size; exact this) ?_
            intro Ar1 cr1 wr1 hown hg ha
            have HSr1 := Lib.hid (HP.out.push (new := [⟨4, y.line, 0⟩]) rfl (by rw [flat_one]; exact hown) hg ha)
            clear hown hg ha HP
            clear nd0 nd1 nd2 nd3 nd4 nd5 nd13 nd14 nd15 nd16 nd17 nd18 nd19 nl
            have HSr2 := Lib.hid (show Stn w NB mm wr1 (ls ++ List.replicate (q + 1) ⟨4, y.line, 0⟩) Ar1 (n8 + 1) cr1 by rw [List.replicate_succ', ← List.append_assoc]; exact HSr1.out)
            go_wp2_with fail
            go_roundw
            case rel => exact ⟨q + 1, Ar1, n8 + 1, cr1, by go_num, rfl, by omega, Lib.hid (by have := HN8.out; omega), HSr2⟩
            case measure => simp [intOf] <;> omega
          · have hqe : q = nq := by omega
            have hqg : (nq : Int) ≤ (q : Int) := by omega
            have HSz := Lib.hid (show Stn w NB mm wr (ls ++ List.replicate (linesP y.words y.space ru 0).length ⟨4, y.line, 0⟩) A8 n8 c8 by rw [← HNQ.out, ← hqe]; exact HSq.out)
            have hb8 : n8 ≤ 120000 := by have := HN8.out; have := HNQ.out; have := HTX.out; omega
            clear HSq
            obtain ⟨⟨nd0, nd1, nd2, nd3, nd4, nd5, nd13⟩, ⟨nd14, nd15, nd16, nd17, nd18, nd19⟩, nl⟩ := nd_see HSH.out HSz.out.nb
            rw [hk] at nd0
            go_wp2_with fail
            go_roundw
            case rel => exact ⟨nxt j y, ls ++ stpsE L wd (ev1 L j y), A8, n8, c8, by rw [HNJ.out], rfl, by have := HLJ.out; omega, HLJ.out.2, HC2, HEQ2, Lib.hid (by rw [← HFX.out, List.append_nil]; exact HSz.out.len), Lib.hid (by rw [← HFX.out, List.append_nil]; exact HSz.out.own), Lib.hid HSz.out.low⟩
            case measure => have := HNJ.out; have := HLJ.out; simp [intOf] <;> omega
    · have hje2 : j = e := by omega
      subst hje2
      have hge : (j : Int) ≤ (j : Int) := Int.le_refl _
      have HFIN := Lib.hid (show ls = stpsE L wd (evN L i j) by rw [← HEQ.out, evN_end (Nat.le_refl _)]; show ls = ls ++ []; rw [List.append_nil])
      go_wp2_with fail
      go_ret
      exact ⟨A, n, c, rfl, by rw [← HFIN.out]; exact HLN.out.symm, by rw [← HFIN.out]; exact HOW.out, HLO.out⟩
end Go.Proofs.YtdjnaejblgheoaaGreat
