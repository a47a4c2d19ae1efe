import Derived.Test.YtildplbdhnodjaaJC03
import Derived.Deep.QuietTactic
import Derived.BigQuiet
import Derived.Test.YtildplbdhnodjaaJC00
import Derived.Deep.WholeRow
import Derived.DeepKeys
import Derived.Test.YtildplbdhnodjaaRows
import Derived.Test.YtildplbdhnodjaaJC01
import Derived.Lib.SmallJoins
import Derived.Deep.MidRow
import Derived.Lib.MinMax
/- The document's answers for package read: the letter of an attribute. -/
namespace Go.Proofs.Ytildplbdhnodjaa
open Go.RowKit
set_option linter.unusedVariables false
set_option linter.unusedSimpArgs false
def lettersZ : ByteArray := ⟨#[109, 110, 112, 113, 105, 111, 119, 104, 66, 65, 73, 99]⟩
def bytesI (t : ByteArray) : List Int := (List.range t.size).map (bAt t)
theorem mem_bytesI {t : ByteArray} {c : Int} : c ∈ bytesI t ↔ ∃ j, j < t.size ∧ bAt t j = c := by unfold bytesI; simp
theorem letters_at : ∀ k, k < 12 → bAt lettersZ k ∈ lettersB := by decide +kernel
theorem letters_all : ∀ c ∈ lettersB, ∃ k, k < 12 ∧ bAt lettersZ k = c := by decide +kernel
theorem letterB_found {l : List Tok} {i : Nat} {told : List Int} {c : Int} (hc : c ∈ lettersB) (h : sgB l i c = true) : letterB l i told = if c ∈ told then 0 else c := by
  have hf : lettersB.find? (sgB l i) = some c := by
    rcases hq : lettersB.find? (sgB l i) with _ | d
    · have := List.find?_eq_none.1 hq c hc
      exact absurd h this
    · have := List.find?_some hq
      by_cases e : d = c
      · rw [e]
      · exact (sg_clash this h e).elim
  unfold letterB
  rw [hf]
theorem letterB_none {l : List Tok} {i : Nat} {told : List Int} (h : ∀ c ∈ lettersB, sgB l i c = false) : letterB l i told = 0 := by
  have hf : lettersB.find? (sgB l i) = none := List.find?_eq_none.2 (fun c hc => by rw [h c hc]; simp)
  unfold letterB
  rw [hf]
theorem rletters_to {z : ByteArray} (hz : lettersZ = z) (w : World) : Calls Try.prog 59 #[] w fun e w' => e = .returned (.string z) ∧ w = w' := by
  subst hz; exact rletters_any w
theorem rsign_to {toks : List Tok} {A : Option Addr} {n c' : Nat} {i : Nat} {c : Int} {v : Bool} (hv : sgB toks i c = v) (w : World) (hR : Rows 4 encT w A n toks) (hi : i ≤ 10000000) : Calls Try.prog 35 #[.slice A n c', .int .i64 i, .int .i32 c] w fun e w' => e = .returned (.bool v) ∧ w = w' := by
  subst hv; exact rsign_any toks A n c' i c w hR hi
theorem rletter_any (toks : List Tok) (A : Option Addr) (n c' : Nat) (i : Nat) (told : ByteArray) (w : World) (hR : Rows 4 encT w A n toks) (hi : i ≤ 1000000) (ht : told.size ≤ 2000000) :
    Calls Try.prog 53 #[.slice A n c', .int .i64 i, .string told] w fun e w' => e = .returned (.int .u8 (letterB toks i (bytesI told))) ∧ Below w.heap.size w w' := by
  have HR := Lib.hid hR
  clear hR
  obtain ⟨z, hz⟩ : ∃ z, lettersZ = z := ⟨_, rfl⟩
  have hzs : z.size = 12 := by rw [← hz]; rfl
  have HZ := Lib.hid hz
  have HL := Lib.hid (show ∀ k, k < 12 → bAt z k ∈ lettersB from hz ▸ letters_at)
  have HA := Lib.hid (show ∀ c ∈ lettersB, ∃ k, k < 12 ∧ bAt z k = c from hz ▸ letters_all)
  clear hz
  go_enter Try.func53, Try.ntmps53
  go_wp2_with (go_at_call 59; refine (rletters_to HZ.out _).mono ?_; rintro e w' ⟨rfl, rfl⟩)
  go_loopw [8, 9] (fun v u wr => ∃ k : Nat, k ≤ 12 ∧ v = .int .i64 k ∧ (∀ j, j < k → sgB toks i (bAt z j) = false) ∧ wr = w) (fun v _ _ => 12 - (intOf v).toNat)
  case atStart => exact ⟨0, by omega, rfl, fun j hj => by omega, rfl⟩
  case round =>
    obtain ⟨k, hk, rfl, hno, rfl⟩ := hrel
    have HN := Lib.hid hno
    clear hno
    by_cases hlt : k < 12
    · have hkz : k < z.size := by omega
      have hk2 : (k : Int) < (z.size : Int) := by omega
      have hb0 := bAt_get z k hkz
      have hbd := bAt_bd z k
      obtain ⟨c, hc⟩ : ∃ c, bAt z k = c := ⟨_, rfl⟩
      rw [hc] at hb0 hbd
      have HC := Lib.hid hc
      have o1 : IntKind.i32.wrap c = c := by rw [IntKind.wrap_i32]; omega
      clear hc
      rcases hs : sgB toks i c with _ | _
      · have HS := Lib.hid hs
        clear hs
        go_wp2_with (go_at_call 35; refine (rsign_to HS.out _ HR.out (by omega)).mono ?_; rintro e w' ⟨rfl, rfl⟩)
        go_roundw
        case rel => exact ⟨k + 1, by omega, by go_num, fun j hj => by
          by_cases e : j = k
          · subst e; rw [HC.out]; exact HS.out
          · exact HN.out j (by omega), by first | rfl | trivial⟩
        case measure => simp [intOf]; omega
      · have HS := Lib.hid hs
        have hcl : c ∈ lettersB := by rw [← HC.out]; exact HL.out k hlt
        have hv := letterB_found (told := bytesI told) hcl hs
        have HV := Lib.hid hv
        clear hs hv
        go_wp2_with (go_at_call 35; refine (rsign_to HS.out _ HR.out (by omega)).mono ?_; rintro e w' ⟨rfl, rfl⟩)
        obtain ⟨wo, rfl⟩ : ∃ wo : World, wo = wr := ⟨_, rfl⟩
        go_loopw [9] (fun u wr => ∃ k2 m : Nat, k2 ≤ told.size ∧ u = .int .i64 k2 ∧ (∀ j, j < k2 → bAt told j ≠ c) ∧ wr = wo.drewN m) (fun u _ => told.size - (intOf u).toNat)
        case atStart => exact ⟨0, 0, by omega, rfl, fun j hj => by omega, rfl⟩
        case round =>
          obtain ⟨k2, m, hk2', rfl, hno, rfl⟩ := hrel
          have HN2 := Lib.hid hno
          clear hno
          by_cases hlt2 : k2 < told.size
          · have hd0 := bAt_get told k2 hlt2
            have hk3 : (k2 : Int) < (told.size : Int) := by omega
            obtain ⟨d, hd⟩ : ∃ d, bAt told k2 = d := ⟨_, rfl⟩
            rw [hd] at hd0
            have HD := Lib.hid hd
            clear hd
            by_cases hdc : d = c
            · have HR0 := Lib.hid (show letterB toks i (bytesI told) = 0 by rw [HV.out, if_pos (mem_bytesI.2 ⟨k2, hlt2, by rw [HD.out, hdc]⟩)])
              subst hdc
              go_wp2_with fail
              go_quiet (fail)
              go_wp2_with fail
              go_ret
              exact ⟨by rw [HR0.out]; rfl, below_drewN (below_drewN (Below.refl _ _) _) _⟩
            · have hdc2 : (d == c) = false := by simp [hdc]
              go_wp2_with fail
              go_quiet (fail)
              go_wp2_with fail
              go_roundw
              case rel => exact ⟨k2 + 1, _, by omega, by go_num, fun j hj => by
                by_cases e : j = k2
                · subst e; rw [HD.out]; exact hdc
                · exact HN2.out j (by omega), rfl⟩
              case measure => simp [intOf]; omega
          · have HR0 := Lib.hid (show letterB toks i (bytesI told) = c by rw [HV.out, if_neg (by rw [mem_bytesI]; rintro ⟨j, hj, e⟩; exact HN2.out j (by omega) e)])
            have hk3 : (told.size : Int) ≤ (k2 : Int) := by omega
            go_wp2_with fail
            go_ret
            exact ⟨by rw [HR0.out]; rfl, below_drewN (Below.refl _ _) _⟩
    · obtain rfl : k = 12 := by omega
      have hv : letterB toks i (bytesI told) = 0 := letterB_none (fun c hc => by
        obtain ⟨k, hk1, hk2⟩ := HA.out c hc
        rw [← hk2]; exact HN.out k hk1)
      have HV := Lib.hid hv
      clear hv
      go_wp2_with fail
      go_ret
      exact ⟨by rw [HV.out]; rfl, Below.refl _ _⟩
end Go.Proofs.Ytildplbdhnodjaa
/- Nodes in memory; what a reader of nodes answers. -/
namespace Go.Proofs.Ytildplbdhnodjaa
open Go.RowKit
set_option linter.unusedVariables false
set_option linter.unusedSimpArgs false
structure NdM where
  kind : Int
  size : Int
  sty : Sty
  line : Int
  space : Int
  A : Option Addr
  n : Nat
  c : Nat
  side : Int
  w : Int
  h : Int
def encM (m : NdM) : List Value := [.int .i64 m.kind, .int .i64 m.size, .int .i64 m.sty.top, .int .i64 m.sty.bottom, .int .i64 m.sty.padTop, .int .i64 m.sty.padBottom, .int .i64 m.sty.inset, .int .i64 m.sty.orphans, .int .i64 m.sty.widows, .int .i64 m.sty.head, .int .i64 m.sty.before, .int .i64 m.sty.after, .int .i64 m.sty.inside, .int .i64 m.sty.clear,
  .int .i64 m.line, .int .i64 m.space, .slice m.A m.n m.c, .int .i64 m.side, .int .i64 m.w, .int .i64 m.h]
theorem encM_len (m : NdM) : (encM m).length = 20 := rfl
theorem encM_one (m : NdM) : ∀ u ∈ encM m, u.oneCell' = true := by
  intro u hu
  simp only [encM, List.mem_cons, List.not_mem_nil, or_false] at hu
  rcases hu with h | h | h | h | h | h | h | h | h | h | h | h | h | h | h | h | h | h | h | h <;> subst h <;> rfl
theorem encMs_one (zs : List NdM) : ∀ u ∈ zs.flatMap encM, u.oneCell' = true := by
  intro u hu
  obtain ⟨m, _, hm⟩ := List.mem_flatMap.1 hu
  exact encM_one m u hm
/-- the node x lies there as m; its words in a row of their own, from block base on. -/
def Holds (base : Nat) (w : World) (m : NdM) (x : Nd) : Prop := (x.kind = m.kind ∧ x.size = m.size ∧ x.sty = m.sty ∧ x.line = m.line ∧ x.space = m.space ∧ x.side = m.side ∧ x.w = m.w ∧ x.h = m.h) ∧ w.ownsRow base 3 1 (.slice m.A m.n m.c) m.n (x.words.map (Value.int .i64))
def Holds2 (base : Nat) (w : World) (zs : List NdM) (l : List Nd) : Prop := zs.length = l.length ∧ ∀ (i : Nat) (m : NdM) (x : Nd), zs[i]? = some m → l[i]? = some x → Holds base w m x
theorem Holds2.below {base : Nat} {w w' : World} {zs : List NdM} {l : List Nd} (h : Holds2 base w zs l) (hb : Below w.heap.size w w') : Holds2 base w' zs l :=
  ⟨h.1, fun i m x h1 h2 => ⟨(h.2 i m x h1 h2).1, owns_below (h.2 i m x h1 h2).2 hb⟩⟩
theorem Holds2.nil (base : Nat) (w : World) : Holds2 base w [] [] := ⟨rfl, fun i m x h => by simp at h⟩
theorem Holds2.append {base : Nat} {w : World} {zs zs' : List NdM} {l l' : List Nd} (h : Holds2 base w zs l) (h' : Holds2 base w zs' l') : Holds2 base w (zs ++ zs') (l ++ l') := by
  refine ⟨by rw [List.length_append, List.length_append, h.1, h'.1], fun i m x h1 h2 => ?_⟩
  by_cases hi : i < zs.length
  · rw [List.getElem?_append_left hi] at h1
    rw [List.getElem?_append_left (by rw [← h.1]; exact hi)] at h2
    exact h.2 i m x h1 h2
  · rw [List.getElem?_append_right (by omega)] at h1
    rw [List.getElem?_append_right (by rw [← h.1]; omega), ← h.1] at h2
    exact h'.2 _ m x h1 h2
theorem Holds2.one {base : Nat} {w : World} {m : NdM} {x : Nd} (h : Holds base w m x) : Holds2 base w [m] [x] := by
  refine ⟨rfl, fun i m' x' h1 h2 => ?_⟩
  cases i with
  | zero => simp at h1 h2; subst h1 h2; exact h
  | succ i => simp at h1
/-- the slice's block is one from base on. -/
def Far (base : Nat) (A : Option Addr) : Prop := ∀ p, A = some p → base ≤ p.block
theorem Far.nil (base : Nat) : Far base .none := fun p h => by cases h
theorem Far.at_ {base g : Nat} (h : base ≤ g) : Far base (some ⟨g, 0, .none⟩) := fun p e => by cases e; exact h
theorem Far.up {base base' : Nat} {A : Option Addr} (h : Far base A) (hb : base' ≤ base) : Far base' A := fun p e => Nat.le_trans hb (h p e)
theorem Far.owns {w : World} {base : Nat} {e : TypeId} {size : Nat} {A : Option Addr} {n c : Nat} {xs : List Value} (h : w.ownsRow base e size (.slice A n c) n xs) : Far base A := fun p hp => owns_block h p.block (by subst hp; rfl)
/-- all blocks from base on are as they were. -/
def Same (base : Nat) (w w' : World) : Prop := w.heap.size ≤ w'.heap.size ∧ ∀ k, base ≤ k → k < w.heap.size → w'.heap[k]? = w.heap[k]?
theorem Same.refl (base : Nat) (w : World) : Same base w w := ⟨Nat.le_refl _, fun _ _ _ => rfl⟩
theorem Same.below {base : Nat} {w w' : World} (h : Below w.heap.size w w') : Same base w w' := ⟨h.size, fun k _ hk => h.block k hk⟩
theorem Same.set {base : Nat} (w : World) {m : Nat} (hm : m < base) (j : Nat) (v : Value) : Same base w (w.setCell ⟨m, j, .none⟩ v) :=
  ⟨by simp, fun k hk _ => Below.heap_setCell _ _ _ _ (fun e => by simp at e; omega)⟩
theorem Same.trans {base : Nat} {a b c : World} (h : Same base a b) (k : Same base b c) : Same base a c := ⟨Nat.le_trans h.1 k.1, fun i hi hl => (k.2 i hi (Nat.lt_of_lt_of_le hl h.1)).trans (h.2 i hi hl)⟩
theorem Rows.same {α : Type} {k : Nat} {enc : α → List Value} {w w' : World} {A : Option Addr} {n : Nat} {zs : List α} {base : Nat} (h : Rows k enc w A n zs) (hA : Far base A) (hs : Same base w w') : Rows k enc w' A n zs :=
  ⟨h.1, h.2.1, fun hn => by
    obtain ⟨b, off, e, hl, hc⟩ := h.2.2 hn
    have hb := hA _ e
    exact ⟨b, off, e, Nat.lt_of_lt_of_le hl hs.1, fun i x hx j v hv => (World.cell?_of_block (w := w) (a := ⟨b, _, .none⟩) (hs.2 b hb hl)).trans (hc i x hx j v hv)⟩⟩
theorem owns_same {w w' : World} {base : Nat} {e : TypeId} {size : Nat} {v : Value} {n : Nat} {xs : List Value} (h : w.ownsRow base e size v n xs) (hs : Same base w w') : w'.ownsRow base e size v n xs := by
  refine ⟨h.1, ?_⟩
  rcases h.2 with h2 | ⟨g, cap, cur, h1, h2, h3, h4⟩
  · exact .inl h2
  · exact .inr ⟨g, cap, cur, h1, h2, (hs.2 g h2 (Array.getElem?_eq_some_iff.1 h3).1).trans h3, h4⟩
theorem owns_up {w : World} {base base' : Nat} {e : TypeId} {size : Nat} {v : Value} {n : Nat} {xs : List Value} (h : w.ownsRow base e size v n xs) (hb : base' ≤ base) : w.ownsRow base' e size v n xs := by
  refine ⟨h.1, ?_⟩
  rcases h.2 with h2 | ⟨g, cap, cur, h1, h2, h3⟩
  · exact .inl h2
  · exact .inr ⟨g, cap, cur, h1, by omega, h3⟩
/-- a step that turns a row of another type. -/
theorem owns_grown {w w' : World} {base base' : Nat} {e e' : TypeId} {size size' : Nat} {v v' : Value} {n n' : Nat} {xs xs' : List Value} (h : w.ownsRow base e size v n xs) (h' : w.ownsRow base' e' size' v' n' xs') (hne : e ≠ e') (hg : w.grownBy w' v'.ownBlock) : w'.ownsRow base e size v n xs := by
  refine ⟨h.1, ?_⟩
  rcases h.2 with h2 | ⟨g, cap, cur, h1, h2, h3, h4⟩
  · exact .inl h2
  · refine .inr ⟨g, cap, cur, h1, h2, (hg.block g (Array.getElem?_eq_some_iff.1 h3).1 (fun q => ?_)).trans h3, h4⟩
    rcases h'.2 with ⟨k, _⟩ | ⟨g', cap', cur', k, _, k3, _⟩
    · rw [k] at q; cases q
    · rw [k] at q
      injection q with q
      rw [show g = g' from q, k3] at h3
      injection h3 with h3
      injection h3 with _ h3 _
      exact hne h3.symm
theorem Holds2.grown {base base' : Nat} {w w' : World} {zs : List NdM} {l : List Nd} {e' : TypeId} {size' n' : Nat} {v' : Value} {xs' : List Value} (h : Holds2 base w zs l) (h' : w.ownsRow base' e' size' v' n' xs') (hne : 3 ≠ e') (hg : w.grownBy w' v'.ownBlock) : Holds2 base w' zs l :=
  ⟨h.1, fun i m x h1 h2 => ⟨(h.2 i m x h1 h2).1, owns_grown (h.2 i m x h1 h2).2 h' hne hg⟩⟩
theorem Holds2.same {base : Nat} {w w' : World} {zs : List NdM} {l : List Nd} (h : Holds2 base w zs l) (hs : Same base w w') : Holds2 base w' zs l :=
  ⟨h.1, fun i m x h1 h2 => ⟨(h.2 i m x h1 h2).1, owns_same (h.2 i m x h1 h2).2 hs⟩⟩
theorem Holds2.up {base base' : Nat} {w : World} {zs : List NdM} {l : List Nd} (h : Holds2 base w zs l) (hb : base' ≤ base) : Holds2 base' w zs l :=
  ⟨h.1, fun i m x h1 h2 => ⟨(h.2 i m x h1 h2).1, owns_up (h.2 i m x h1 h2).2 hb⟩⟩
theorem Holds.ints {base : Nat} {w : World} {m : NdM} {x : Nd} (h : Holds base w m x) : Ints w m.A m.n x.words := (ownsRow_cells h.2).ints
/-- nodes in memory, all of it from block base on. -/
def Nds (base : Nat) (w : World) (A : Option Addr) (n : Nat) (l : List Nd) : Prop := ∃ zs : List NdM, Rows 20 encM w A n zs ∧ Holds2 base w zs l ∧ Far base A
theorem Nds.same {base : Nat} {w w' : World} {A : Option Addr} {n : Nat} {l : List Nd} (h : Nds base w A n l) (hs : Same base w w') : Nds base w' A n l := by
  obtain ⟨zs, h1, h2, h3⟩ := h
  exact ⟨zs, h1.same h3 hs, h2.same hs, h3⟩
theorem Nds.below {base : Nat} {w w' : World} {A : Option Addr} {n : Nat} {l : List Nd} (h : Nds base w A n l) (hb : Below w.heap.size w w') : Nds base w' A n l := h.same (Same.below hb)
theorem Nds.up {base base' : Nat} {w : World} {A : Option Addr} {n : Nat} {l : List Nd} (h : Nds base w A n l) (hb : base' ≤ base) : Nds base' w A n l := by
  obtain ⟨zs, h1, h2, h3⟩ := h
  exact ⟨zs, h1, h2.up hb, h3.up hb⟩
theorem Nds.nil (base : Nat) (w : World) : Nds base w .none 0 [] := ⟨[], Rows.nil _ _, Holds2.nil _ _, Far.nil _⟩
theorem Nds.len {base : Nat} {w : World} {A : Option Addr} {n : Nat} {l : List Nd} (h : Nds base w A n l) : l.length = n := by
  obtain ⟨zs, h1, h2, _⟩ := h
  rw [← h2.1]; exact h1.1
/-- a number of nodes is no more than that of the tokens. -/
theorem Parse.len {l : List Tok} {t : Bool} {i : Nat} {out : List Nd} {r : Res (List Nd)} (h : Parse l t i out r) : ∀ x b, r = .ok x b → x.length + i ≤ out.length + b := by
  have hbox : ∀ i kind side e x b, boxR l i kind side e = .ok x b → x.length + i ≤ b := by
    intro i kind side e x b hr
    unfold boxR at hr
    split at hr
    · cases hr
    split at hr
    · cases hr
    split at hr
    · cases hr
    · cases hr; simp; omega
  induction h with
  | stop _ => intro x b h; cases h; omega
  | more _ _ _ ih1 ih2 => intro x b h; have := ih1 _ _ rfl; have := ih2 _ _ h; simp at *; omega
  | fail _ _ _ => intro x b h; cases h
  | blockA _ _ => intro x b h; cases h
  | blockN _ _ _ _ => intro x b h; cases h
  | blockE _ _ _ _ _ => intro x b h; cases h
  | block _ g2 _ _ ih => intro x b h; cases h; have := ih _ _ rfl; have := g2.le; simp [Res.at_] at *; omega
  | textL _ _ => intro x b h; cases h
  | textS _ _ _ => intro x b h; cases h
  | textW _ _ _ _ _ => intro x b h; cases h
  | text _ _ _ g4 _ _ => intro x b h; cases h; have := g4.le; simp; omega
  | mono _ => intro x b h; have := hbox _ _ _ _ _ _ h; simp; omega
  | left _ _ => intro x b h; have := hbox _ _ _ _ _ _ h; simp; omega
  | right _ _ => intro x b h; have := hbox _ _ _ _ _ _ h; simp; omega
  | side _ _ _ => intro x b h; cases h
def gotV (A : Option Addr) (n c : Nat) (p wrong : Int) : Value := .agg #[.slice A n c, .int .i64 p, .int .i64 wrong]
/-- what one of the readers answers. -/
def GotR (w : World) (r : Res (List Nd)) (e : Ending) (w' : World) : Prop := match r with
  | .ok x b => ∃ A n c, e = .returned (gotV A n c b 0) ∧ Nds w.heap.size w' A n x ∧ Below w.heap.size w w'
  | .bad p => e = .returned (gotV none 0 0 p 1) ∧ Below w.heap.size w w'
def GotP (toks : List Tok) (t : Bool) (i : Nat) (w : World) (e : Ending) (w' : World) : Prop := ∃ r, Parse toks t i [] r ∧ GotR w r e w'
/-- a block that holds a struct, read whole. -/
theorem box_load {P : Program} {w : World} {n k : Nat} {vs : List Value} (h : Box w n vs) (hk : vs.length = k) (cs : Array Value) (hc : cs = vs.toArray) : (loadCellsFrom ⟨n, 0, none⟩ 0 k #[]).run P w = .ok cs w := by
  subst hk hc
  have := run_loadCells_list (P := P) w ⟨n, 0, none⟩ vs (fun j v hv => by
    rw [Go.WideShapes.add_plain, Nat.zero_add]; exact h.2.2 j v hv)
  simpa [loadCells] using this
theorem box3_of {w : World} {n : Nat} {a b c : Value} (h : Box w n [a, b, c]) : (w.cell? ⟨n, 0, none⟩ = some a ∧ w.cell? ⟨n, 1, none⟩ = some b ∧ w.cell? ⟨n, 2, none⟩ = some c) ∧ (w.frozen? ⟨n, 0, none⟩ = false ∧ w.frozen? ⟨n, 1, none⟩ = false ∧ w.frozen? ⟨n, 2, none⟩ = false) ∧ n < w.heap.size :=
  ⟨⟨h.2.2 0 _ rfl, h.2.2 1 _ rfl, h.2.2 2 _ rfl⟩, ⟨h.2.1 _, h.2.1 _, h.2.1 _⟩, h.1⟩
theorem rows_box {α : Type} {k : Nat} {enc : α → List Value} (hk : ∀ x, (enc x).length = k) {w : World} {n : Nat} {zs : List α} (h : Box w n (zs.flatMap enc)) (hl : zs.length ≤ 1000000) : Rows k enc w (some ⟨n, 0, none⟩) zs.length zs := by
  refine ⟨rfl, by omega, fun _ => ⟨n, 0, rfl, h.1, fun i x hx j v hv => ?_⟩⟩
  rw [Nat.zero_add]
  exact h.2.2 _ _ (flat_get hk zs i x j v hx hv)
theorem box_new (w : World) (vs : List Value) (t : TypeId) (n : Nat) (h : n = w.heap.size) (cs : Array Value) (hc : cs = vs.toArray) : Box (w.alloc (.cells cs t)) n vs := by subst h hc; exact Box.new w vs t
end Go.Proofs.Ytildplbdhnodjaa
/- Styles compared; nodes compared. -/
namespace Go.Proofs.Ytildplbdhnodjaa
open Go.RowKit
set_option linter.unusedVariables false
set_option linter.unusedSimpArgs false
def litS (s : Sty) : List Lit := [.int .i64 s.top, .int .i64 s.bottom, .int .i64 s.padTop, .int .i64 s.padBottom, .int .i64 s.inset, .int .i64 s.orphans, .int .i64 s.widows, .int .i64 s.head, .int .i64 s.before, .int .i64 s.after, .int .i64 s.inside, .int .i64 s.clear]
def styB (s t : Sty) : Bool := s.top == t.top && s.bottom == t.bottom && s.padTop == t.padTop && s.padBottom == t.padBottom && s.inset == t.inset && s.orphans == t.orphans && s.widows == t.widows && s.head == t.head && s.before == t.before && s.after == t.after && s.inside == t.inside && s.clear == t.clear
theorem styB_iff (s t : Sty) : styB s t = true ↔ s = t := by
  obtain ⟨a0, a1, a2, a3, a4, a5, a6, a7, a8, a9, a10, a11⟩ := s
  obtain ⟨b0, b1, b2, b3, b4, b5, b6, b7, b8, b9, b10, b11⟩ := t
  simp [styB, and_assoc]
theorem litS_iff (s t : Sty) : litS s = litS t ↔ s = t := by
  obtain ⟨a0, a1, a2, a3, a4, a5, a6, a7, a8, a9, a10, a11⟩ := s
  obtain ⟨b0, b1, b2, b3, b4, b5, b6, b7, b8, b9, b10, b11⟩ := t
  simp [litS]
theorem part_int (xs : Array Value) (k : Nat) (v : Value) (h : xs[k]? = some v) (w : World) : (part 3 xs k).run Try.prog w = .ok v w := run_part_plain w (by kernel_rfl) h
theorem ite_ok {p : Prop} [Decidable p] {c : Bool} {w : World} : (if p then Result.ok c w else Result.ok false w) = Result.ok (decide p && c) w := by split <;> simp_all
theorem ite_and {b : Bool} {c : Bool} {w : World} : (if (!b) = true then Result.ok false w else Result.ok c w) = Result.ok (b && c) w := by cases b <;> rfl
set_option maxRecDepth 10000 in
theorem sty_equal (s t : Sty) (w : World) : (Op.equalIn 10000 25 (.agg (encS12 s).toArray) (.agg (encS12 t).toArray)).run Try.prog w = .ok (styB s t) w := by
  obtain ⟨a0, a1, a2, a3, a4, a5, a6, a7, a8, a9, a10, a11⟩ := s
  obtain ⟨b0, b1, b2, b3, b4, b5, b6, b7, b8, b9, b10, b11⟩ := t
  rw [show (10000 : Nat) = 9999 + 1 from rfl, run_equalIn_struct w 9999 _ _ _ (by kernel_rfl) (by kernel_rfl)]
  have hi : ∀ (a b : Int) (w : World), (Op.equalIn 9999 3 (.int .i64 a) (.int .i64 b)).run Try.prog w = .ok (a == b) w := fun a b w => run_equalIn_int w 9998 3 .i64 .i64 a b Try.underlying3
  simp [Program.fieldsOf, Try.underlying25, Op.eqFields, encS12, part_int, hi, styB, ite_and]
  simp only [ite_ok]
  congr 1
  rw [Bool.eq_iff_iff]
  simp [and_assoc]
/-- two nodes are the same. -/
def ndB (x y : Nd) : Bool := x.kind == y.kind && x.size == y.size && styB x.sty y.sty && x.line == y.line && x.space == y.space && x.side == y.side && x.w == y.w && x.h == y.h && x.words == y.words
theorem ndB_iff (x y : Nd) : ndB x y = true ↔ x = y := by
  obtain ⟨a0, a1, a2, a3, a4, a5, a6, a7, a8⟩ := x
  obtain ⟨b0, b1, b2, b3, b4, b5, b6, b7, b8⟩ := y
  simp [ndB, styB_iff]
  constructor
  · rintro ⟨⟨⟨⟨⟨⟨⟨⟨h1, h2⟩, h3⟩, h4⟩, h5⟩, h6⟩, h7⟩, h8⟩, h9⟩
    exact ⟨h1, h2, h3, h4, h5, h9, h6, h7, h8⟩
  · rintro ⟨h1, h2, h3, h4, h5, h9, h6, h7, h8⟩
    exact ⟨⟨⟨⟨⟨⟨⟨⟨h1, h2⟩, h3⟩, h4⟩, h5⟩, h6⟩, h7⟩, h8⟩, h9⟩
/-- a node that can be read there: its words, too. -/
def Shows (w : World) (m : NdM) (x : Nd) : Prop := (x.kind = m.kind ∧ x.size = m.size ∧ x.sty = m.sty ∧ x.line = m.line ∧ x.space = m.space ∧ x.side = m.side ∧ x.w = m.w ∧ x.h = m.h) ∧ Ints w m.A m.n x.words
theorem Shows.below {w w' : World} {m : NdM} {x : Nd} (h : Shows w m x) (hb : Below w.heap.size w w') : Shows w' m x := ⟨h.1, (h.2.cells.below hb rfl).ints⟩
theorem Holds.shows {base : Nat} {w : World} {m : NdM} {x : Nd} (h : Holds base w m x) : Shows w m x := ⟨h.1, h.ints⟩
/-- nodes that can be read there. -/
def Sees (w : World) (A : Option Addr) (n : Nat) (l : List Nd) : Prop := ∃ zs : List NdM, Rows 20 encM w A n zs ∧ zs.length = l.length ∧ ∀ (i : Nat) (m : NdM) (x : Nd), zs[i]? = some m → l[i]? = some x → Shows w m x
theorem Sees.below {w w' : World} {A : Option Addr} {n : Nat} {l : List Nd} (h : Sees w A n l) (hb : Below w.heap.size w w') : Sees w' A n l := by
  obtain ⟨zs, h1, h2, h3⟩ := h
  exact ⟨zs, h1.below hb, h2, fun i m x h4 h5 => (h3 i m x h4 h5).below hb⟩
theorem Nds.sees {base : Nat} {w : World} {A : Option Addr} {n : Nat} {l : List Nd} (h : Nds base w A n l) : Sees w A n l := by
  obtain ⟨zs, h1, h2, h3⟩ := h
  exact ⟨zs, h1, h2.1, fun i m x h4 h5 => (h2.2 i m x h4 h5).shows⟩
theorem Sees.len {w : World} {A : Option Addr} {n : Nat} {l : List Nd} (h : Sees w A n l) : l.length = n := by
  obtain ⟨zs, h1, h2, _⟩ := h
  rw [← h2]; exact h1.1
end Go.Proofs.Ytildplbdhnodjaa
/- Rows of nodes that come in: each node's cells, its words. (Written by program: tools/drafts/gennodeopen.py.) -/
namespace Go.Proofs.Ytildplbdhnodjaa
open Go.ChangeShapes Go.WideShapes Go.ChangeAt Go.RowKit Go.Joins
set_option linter.unusedVariables false
set_option linter.unusedSimpArgs false
theorem cellsNode : Try.prog.cellsOf 28 = 20 := by kernel_rfl
theorem cellsStyle : Try.prog.cellsOf 25 = 12 := by kernel_rfl
theorem cellsInt5 : Try.prog.cellsOf 3 = 1 := by kernel_rfl
theorem cellsInts5 : Try.prog.cellsOf 26 = 1 := by kernel_rfl
section
variable {H : Type} {enc : TypeId × Value → H} {W : World}
theorem trod_field {fs : Array Field} {t : TypeId} {fuel : Nat} {cs : List Value} {x : DataW H × List MemPlace} (ht : Try.prog.underlying t = some (.struct fs)) (h : DataW.trod enc Try.prog W 0 (fun _ => true) true fuel t cs = some x) :
    cs.length = Try.prog.cellsOf t ∧ ∃ n, ∀ (i : Nat) (f : Field), fs[i]? = some f → ∃ y, DataW.trod enc Try.prog W 0 (fun _ => true) true n f.type ((cs.drop f.offset).take (Try.prog.cellsOf f.type)) = some y := by
  obtain ⟨xs, n, _, _, hl, hlen, hf⟩ := DataW.trod_struct ht h
  refine ⟨hl, n, fun i f hi => ?_⟩
  have hlt : i < xs.length := by rw [hlen]; exact (Array.getElem?_eq_some_iff.1 hi).1
  exact ⟨xs[i], by rw [hf i f hi, List.getElem?_eq_getElem hlt]⟩
theorem trod_words {fuel : Nat} {cs : List Value} {x : DataW H × List MemPlace} (h : DataW.trod enc Try.prog W 0 (fun _ => true) true fuel 26 cs = some x) : ∃ A n c zs, cs = [.slice A n c] ∧ Ints W A n zs := by
  rcases open_ints Try.underlying26 Try.underlying3 cellsInt5 h with ⟨hcs, _⟩ | ⟨a, len, cap, zs, hcs, _, hl, hm, hz, _, hcell, hw⟩
  · exact ⟨none, 0, 0, [], hcs, Ints.nil _ _⟩
  · simp only [if_true] at hz
    refine ⟨_, len, cap, zs.take len, hcs, ⟨by rw [List.length_take]; omega, by unfold maxLen at hm; omega, fun hn => ?_⟩⟩
    obtain ⟨b, off, spot⟩ := a
    have hspot : spot = none := by simpa [Addr.add] using World.cell?_spot (hcell 0 (by omega))
    subst hspot
    have hc0 : ∀ k, k < len → W.cell? ⟨b, off + k, none⟩ = some (.int .i64 ((zs.take len)[k]?.getD 0)) := by
      intro k hk
      rw [← add_plain, hcell k (by omega)]
      simp [hk]
    exact ⟨b, off, rfl, cell_lt (hc0 0 hn), hc0⟩
set_option maxRecDepth 100000 in
theorem trod_sty {fuel : Nat} {cs : List Value} {x : DataW H × List MemPlace} (h : DataW.trod enc Try.prog W 0 (fun _ => true) true fuel 25 cs = some x) : ∃ s : Sty, cs = encS12 s := by
  obtain ⟨hl, n, hf⟩ := trod_field Try.underlying25 h
  rw [cellsStyle] at hl
  match cs, hl with
  | [x0, x1, x2, x3, x4, x5, x6, x7, x8, x9, x10, x11], _ =>
    obtain ⟨y0, h0⟩ := hf 0 _ rfl
    simp only [List.getElem_toArray, List.getElem_cons_zero, List.getElem_cons_succ, cellsInt5] at h0
    obtain ⟨a0, e0, _, _⟩ := DataW.trod_int Try.underlying3 h0
    simp at e0
    subst e0
    obtain ⟨y1, h1⟩ := hf 1 _ rfl
    simp only [List.getElem_toArray, List.getElem_cons_zero, List.getElem_cons_succ, cellsInt5] at h1
    obtain ⟨a1, e1, _, _⟩ := DataW.trod_int Try.underlying3 h1
    simp at e1
    subst e1
    obtain ⟨y2, h2⟩ := hf 2 _ rfl
    simp only [List.getElem_toArray, List.getElem_cons_zero, List.getElem_cons_succ, cellsInt5] at h2
    obtain ⟨a2, e2, _, _⟩ := DataW.trod_int Try.underlying3 h2
    simp at e2
    subst e2
    obtain ⟨y3, h3⟩ := hf 3 _ rfl
    simp only [List.getElem_toArray, List.getElem_cons_zero, List.getElem_cons_succ, cellsInt5] at h3
    obtain ⟨a3, e3, _, _⟩ := DataW.trod_int Try.underlying3 h3
    simp at e3
    subst e3
    obtain ⟨y4, h4⟩ := hf 4 _ rfl
    simp only [List.getElem_toArray, List.getElem_cons_zero, List.getElem_cons_succ, cellsInt5] at h4
    obtain ⟨a4, e4, _, _⟩ := DataW.trod_int Try.underlying3 h4
    simp at e4
    subst e4
    obtain ⟨y5, h5⟩ := hf 5 _ rfl
    simp only [List.getElem_toArray, List.getElem_cons_zero, List.getElem_cons_succ, cellsInt5] at h5
    obtain ⟨a5, e5, _, _⟩ := DataW.trod_int Try.underlying3 h5
    simp at e5
    subst e5
    obtain ⟨y6, h6⟩ := hf 6 _ rfl
    simp only [List.getElem_toArray, List.getElem_cons_zero, List.getElem_cons_succ, cellsInt5] at h6
    obtain ⟨a6, e6, _, _⟩ := DataW.trod_int Try.underlying3 h6
    simp at e6
    subst e6
    obtain ⟨y7, h7⟩ := hf 7 _ rfl
    simp only [List.getElem_toArray, List.getElem_cons_zero, List.getElem_cons_succ, cellsInt5] at h7
    obtain ⟨a7, e7, _, _⟩ := DataW.trod_int Try.underlying3 h7
    simp at e7
    subst e7
    obtain ⟨y8, h8⟩ := hf 8 _ rfl
    simp only [List.getElem_toArray, List.getElem_cons_zero, List.getElem_cons_succ, cellsInt5] at h8
    obtain ⟨a8, e8, _, _⟩ := DataW.trod_int Try.underlying3 h8
    simp at e8
    subst e8
    obtain ⟨y9, h9⟩ := hf 9 _ rfl
    simp only [List.getElem_toArray, List.getElem_cons_zero, List.getElem_cons_succ, cellsInt5] at h9
    obtain ⟨a9, e9, _, _⟩ := DataW.trod_int Try.underlying3 h9
    simp at e9
    subst e9
    obtain ⟨y10, h10⟩ := hf 10 _ rfl
    simp only [List.getElem_toArray, List.getElem_cons_zero, List.getElem_cons_succ, cellsInt5] at h10
    obtain ⟨a10, e10, _, _⟩ := DataW.trod_int Try.underlying3 h10
    simp at e10
    subst e10
    obtain ⟨y11, h11⟩ := hf 11 _ rfl
    simp only [List.getElem_toArray, List.getElem_cons_zero, List.getElem_cons_succ, cellsInt5] at h11
    obtain ⟨a11, e11, _, _⟩ := DataW.trod_int Try.underlying3 h11
    simp at e11
    subst e11
    exact ⟨⟨a0, a1, a2, a3, a4, a5, a6, a7, a8, a9, a10, a11⟩, rfl⟩
set_option maxRecDepth 100000 in
theorem trod_node {fuel : Nat} {cs : List Value} {x : DataW H × List MemPlace} (h : DataW.trod enc Try.prog W 0 (fun _ => true) true fuel 28 cs = some x) : ∃ m : NdM, cs = encM m ∧ ∃ ws, Ints W m.A m.n ws := by
  obtain ⟨hl, n, hf⟩ := trod_field Try.underlying28 h
  rw [cellsNode] at hl
  match cs, hl with
  | [x0, x1, x2, x3, x4, x5, x6, x7, x8, x9, x10, x11, x12, x13, x14, x15, x16, x17, x18, x19], _ =>
    obtain ⟨y0, h0⟩ := hf 0 _ rfl
    simp only [List.getElem_toArray, List.getElem_cons_zero, List.getElem_cons_succ, cellsInt5] at h0
    obtain ⟨a0, e0, _, _⟩ := DataW.trod_int Try.underlying3 h0
    simp at e0
    subst e0
    obtain ⟨y1, h1⟩ := hf 1 _ rfl
    simp only [List.getElem_toArray, List.getElem_cons_zero, List.getElem_cons_succ, cellsInt5] at h1
    obtain ⟨a1, e1, _, _⟩ := DataW.trod_int Try.underlying3 h1
    simp at e1
    subst e1
    obtain ⟨y3, h3⟩ := hf 3 _ rfl
    simp only [List.getElem_toArray, List.getElem_cons_zero, List.getElem_cons_succ, cellsInt5] at h3
    obtain ⟨a3, e3, _, _⟩ := DataW.trod_int Try.underlying3 h3
    simp at e3
    subst e3
    obtain ⟨y4, h4⟩ := hf 4 _ rfl
    simp only [List.getElem_toArray, List.getElem_cons_zero, List.getElem_cons_succ, cellsInt5] at h4
    obtain ⟨a4, e4, _, _⟩ := DataW.trod_int Try.underlying3 h4
    simp at e4
    subst e4
    obtain ⟨y6, h6⟩ := hf 6 _ rfl
    simp only [List.getElem_toArray, List.getElem_cons_zero, List.getElem_cons_succ, cellsInt5] at h6
    obtain ⟨a6, e6, _, _⟩ := DataW.trod_int Try.underlying3 h6
    simp at e6
    subst e6
    obtain ⟨y7, h7⟩ := hf 7 _ rfl
    simp only [List.getElem_toArray, List.getElem_cons_zero, List.getElem_cons_succ, cellsInt5] at h7
    obtain ⟨a7, e7, _, _⟩ := DataW.trod_int Try.underlying3 h7
    simp at e7
    subst e7
    obtain ⟨y8, h8⟩ := hf 8 _ rfl
    simp only [List.getElem_toArray, List.getElem_cons_zero, List.getElem_cons_succ, cellsInt5] at h8
    obtain ⟨a8, e8, _, _⟩ := DataW.trod_int Try.underlying3 h8
    simp at e8
    subst e8
    obtain ⟨y2, h2⟩ := hf 2 _ rfl
    simp only [List.getElem_toArray, List.getElem_cons_zero, List.getElem_cons_succ, cellsStyle] at h2
    obtain ⟨s, e2⟩ := trod_sty h2
    simp [encS12] at e2
    obtain ⟨rfl, rfl, rfl, rfl, rfl, rfl, rfl, rfl, rfl, rfl, rfl, rfl⟩ := e2
    obtain ⟨y5, h5⟩ := hf 5 _ rfl
    simp only [List.getElem_toArray, List.getElem_cons_zero, List.getElem_cons_succ, cellsInts5] at h5
    obtain ⟨A, k, c, ws, e5, hws⟩ := trod_words h5
    simp at e5
    subst e5
    exact ⟨⟨a0, a1, s, a3, a4, A, k, c, a6, a7, a8⟩, rfl, ws, hws⟩
theorem shows_list : ∀ (zs : List NdM), (∀ z ∈ zs, ∃ ws, Ints W z.A z.n ws) → ∃ l : List Nd, zs.length = l.length ∧ ∀ (i : Nat) (m : NdM) (x : Nd), zs[i]? = some m → l[i]? = some x → Shows W m x
  | [], _ => ⟨[], rfl, fun i m x h => by simp at h⟩
  | z :: zs, hz => by
    obtain ⟨ws, hw⟩ := hz z (by simp)
    obtain ⟨l, h1, h2⟩ := shows_list zs (fun y hy => hz y (by simp [hy]))
    refine ⟨⟨z.kind, z.size, z.sty, z.line, z.space, ws, z.side, z.w, z.h⟩ :: l, by simp [h1], fun i m x e1 e2 => ?_⟩
    cases i with
    | zero =>
      simp at e1 e2
      subst e1 e2
      exact ⟨⟨rfl, rfl, rfl, rfl, rfl, rfl, rfl, rfl⟩, hw⟩
    | succ i => exact h2 i m x (by simpa using e1) (by simpa using e2)
set_option maxRecDepth 100000 in
theorem open_nodes {base : Nat} {v : Value} {d : DataW H} {p : List MemPlace} (hv : Value.okWide Try.prog W .any base 22 v) (h : DataW.Trod enc Try.prog W 0 (fun _ => true) true 22 v d p) :
    ∃ A n c l, v = .slice A n c ∧ Sees W A n l := by
  obtain ⟨A, n, c, zs, h1, _, _, h4, h5⟩ := open_rows encM (fun m => ∃ ws, Ints W m.A m.n ws) Try.underlying22 cellsNode (by decide) encM_len (fun fuel cs y hy => trod_node hy) hv h
  obtain ⟨l, h6, h7⟩ := shows_list zs h5
  exact ⟨A, n, c, l, h1, zs, h4, h6, h7⟩
set_option maxRecDepth 100000 in
theorem open_nodesC {base : Nat} {v : Value} {d : DataW H} {p : List MemPlace} (hv : Value.okWide Try.prog W .any base 22 v) (h : DataW.Trod enc Try.prog W 0 (fun _ => true) true 22 v d p) :
    ∃ A n c l, v = .slice A n c ∧ (n ≤ c ∧ c ≤ 9223372036854775807) ∧ Sees W A n l := by
  obtain ⟨A, n, c, zs, h1, h2, h3, h4, h5⟩ := open_rows encM (fun m => ∃ ws, Ints W m.A m.n ws) Try.underlying22 cellsNode (by decide) encM_len (fun fuel cs y hy => trod_node hy) hv h
  obtain ⟨l, h6, h7⟩ := shows_list zs h5
  exact ⟨A, n, c, l, h1, ⟨h2, by unfold maxLen at h3; omega⟩, zs, h4, h6, h7⟩
end
end Go.Proofs.Ytildplbdhnodjaa
/- What a script is read as; what a reader of scripts answers. -/
namespace Go.Proofs.Ytildplbdhnodjaa
open Go.RowKit
set_option linter.unusedVariables false
set_option linter.unusedSimpArgs false
/-- what a script is read as, by the document's words. -/
def ReadB (s : ByteArray) (r : Option (List Nd) × Nat) : Prop := (∃ k, lexB s = (none, k) ∧ r = (none, k)) ∨ (∃ toks q, lexB s = (some toks, q) ∧ Read toks s.size r)
theorem ReadB.det {s : ByteArray} {r r' : Option (List Nd) × Nat} (h : ReadB s r) (h' : ReadB s r') : r = r' := by
  rcases h with ⟨k, h1, rfl⟩ | ⟨t, q, h1, h2⟩ <;> rcases h' with ⟨k', h1', rfl⟩ | ⟨t', q', h1', h2'⟩ <;> rw [h1] at h1'
  · injection h1' with _ h; rw [h]
  · injection h1' with h _; cases h
  · injection h1' with h _; cases h
  · injection h1' with h _; injection h with h; subst h; exact h2.det h2'
/-- what Of answers. -/
def OfPost (w : World) (s : ByteArray) (e : Ending) (w' : World) : Prop :=
  (∃ x A n c, ReadB s (some x, 0) ∧ e = .returned (.tuple #[.slice A n c, .int .i64 0, .int .i64 0]) ∧ Nds w.heap.size w' A n x ∧ Below w.heap.size w w') ∨
  (∃ k : Nat, ReadB s (none, k) ∧ e = .returned (.tuple #[.slice none 0 0, .int .i64 (k : Int), .int .i64 1]) ∧ Below w.heap.size w w')
end Go.Proofs.Ytildplbdhnodjaa
/- Nodes that can be read: each one's cells. -/
namespace Go.Proofs.Ytildplbdhnodjaa
open Go.RowKit
set_option linter.unusedVariables false
set_option linter.unusedSimpArgs false
theorem rows_range {w : World} {A : Option Addr} {n k : Nat} {zs : List NdM} (h : Rows 20 encM w A n zs) (hk : k < n) : ∃ b off m, A = some ⟨b, off, none⟩ ∧ b < w.heap.size ∧ zs[k]? = some m ∧ w.rangeAt b (off + k * 20) (encM m) := by
  obtain ⟨b, off, m, h1, h2, h3, h4⟩ := h.at_ hk
  exact ⟨b, off, m, h1, h2, h3, h4⟩
theorem range_on {w : World} {b o : Nat} {cs : List Value} (h : w.rangeAt b o cs) : ∀ W', On w W' → W'.rangeAt b o cs := fun W' hW j v hv => On.cell (h j v hv) W' hW
theorem Sees.at_ {w : World} {A : Option Addr} {n k : Nat} {l : List Nd} (h : Sees w A n l) (hk : k < n) : ∃ b off m x, A = some ⟨b, off, none⟩ ∧ b < w.heap.size ∧ l[k]? = some x ∧ w.rangeAt b (off + k * 20) (encM m) ∧ Shows w m x := by
  obtain ⟨zs, h1, h2, h3⟩ := h
  obtain ⟨b, off, m, e1, e2, e3, e4⟩ := rows_range h1 hk
  have hl := h1.1
  have hx : l[k]? = some (l[k]'(by omega)) := List.getElem?_eq_getElem _
  exact ⟨b, off, m, _, e1, e2, hx, e4, h3 k m _ e3 hx⟩
theorem Sees.bound {w : World} {A : Option Addr} {n : Nat} {l : List Nd} (h : Sees w A n l) : n ≤ 9223372036854775807 := by
  obtain ⟨zs, h1, _⟩ := h
  exact h1.2.1
theorem Sees.on {w w' : World} {A : Option Addr} {n : Nat} {l : List Nd} (h : Sees w A n l) (hb : On w w') : Sees w' A n l := h.below hb
theorem Sees.nil (w : World) : Sees w none 0 [] := ⟨[], Rows.nil _ _, rfl, fun i m x h => by simp at h⟩
end Go.Proofs.Ytildplbdhnodjaa
/- The program's package valid: how much a node is; sums put together. -/
namespace Go.Proofs.Ytildplbdhnodjaa
open Go.RowKit
set_option linter.unusedVariables false
set_option linter.unusedSimpArgs false
def encSm (s : Sm) : List Value := [.int .i64 s.depth, .int .i64 s.pieces, .int .i64 s.nodes, .int .i64 s.heights]
def sumV (s : Sm) : Value := .agg #[.int .i64 s.depth, .int .i64 s.pieces, .int .i64 s.nodes, .int .i64 s.heights]
def timesI (line many : Int) : Int := if 1099511627777 / many < line then 1099511627777 else line * many
theorem timesI_cut {line many : Int} (h1 : 1 ≤ line) (h2 : 1 ≤ many) : timesI line many = cut (line * many) := by
  unfold timesI cut cutN
  have hm : 0 ≤ line * many := Int.mul_nonneg (by omega) (by omega)
  by_cases h : 1099511627777 / many < line
  · rw [if_pos h]
    have := (Int.ediv_lt_iff_lt_mul (by omega : 0 < many)).1 h
    omega
  · rw [if_neg h]
    have := (Int.le_ediv_iff_mul_le (by omega : 0 < many)).1 (by omega : line ≤ 1099511627777 / many)
    omega
theorem ptimes_any (line many : Int) (w : World) (h1 : 1 ≤ line) (h2 : 1 ≤ many) (h3 : many ≤ 9223372036854775807) : Calls Try.prog 52 #[.int .i64 line, .int .i64 many] w fun e w' => e = .returned (.int .i64 (timesI line many)) ∧ w = w' := by
  have q0 := Int.ediv_nonneg (show (0 : Int) ≤ 1099511627777 by decide) (show 0 ≤ many by omega)
  have q1 := Int.ediv_le_self many (show (0 : Int) ≤ 1099511627777 by decide)
  have hz : (many == 0) = false := by simp; omega
  have hz2 : ¬ many = 0 := by omega
  by_cases h : 1099511627777 / many < line
  · have HV := Lib.hid (show timesI line many = 1099511627777 by unfold timesI; rw [if_pos h])
    go_enter Try.func52, Try.ntmps52
    go_wp2_with fail
    go_ret
    exact ⟨ret_int (by rw [HV.out]), rfl⟩
  · have HV := Lib.hid (show timesI line many = line * many by unfold timesI; rw [if_neg h])
    have hle := (Int.le_ediv_iff_mul_le (by omega : 0 < many)).1 (by omega : line ≤ 1099511627777 / many)
    have hm : 0 ≤ line * many := Int.mul_nonneg (by omega) (by omega)
    have hwr : IntKind.i64.wrap (line * many) = line * many := by rw [IntKind.wrap_i64]; omega
    have h' : line ≤ 1099511627777 / many := by omega
    clear h hle hm
    go_enter Try.func52, Try.ntmps52
    go_wp2_with fail
    go_ret
    exact ⟨ret_int (by rw [HV.out]), rfl⟩
theorem ptimes_to {line many v : Int} (hv : timesI line many = v) (w : World) (h1 : 1 ≤ line) (h2 : 1 ≤ many) (h3 : many ≤ 9223372036854775807) : Calls Try.prog 52 #[.int .i64 line, .int .i64 many] w fun e w' => e = .returned (.int .i64 v) ∧ w = w' := by
  subst hv; exact ptimes_any line many w h1 h2 h3
def plusS (s x : Sm) : Sm := ⟨max s.depth x.depth, wr (s.pieces + x.pieces), s.nodes + x.nodes, min (s.heights + x.heights) cutN⟩
set_option maxHeartbeats 4000000 in
set_option maxRecDepth 100000 in
theorem ptogether_any (s x : Sm) (b c : Nat) (w : World) (hB : Box w b [.int .i64 s.depth, .int .i64 s.pieces, .int .i64 s.nodes, .int .i64 s.heights, .int .i64 x.depth, .int .i64 x.pieces, .int .i64 x.nodes, .int .i64 x.heights])
    (h1 : 0 ≤ s.depth) (h2 : wr s.pieces = s.pieces) (h3 : 0 ≤ s.nodes ∧ s.nodes ≤ 1152921504606846976) (h4 : 0 ≤ s.heights ∧ s.heights ≤ 1099511627777) (k1 : 0 ≤ x.depth) (k3 : 0 ≤ x.nodes ∧ x.nodes ≤ 1152921504606846976) (k4 : 0 ≤ x.heights ∧ x.heights ≤ 1152921504606846976) :
    Calls Try.prog 44 #[.slice (some ⟨b, 0, none⟩) 2 c] w fun e w' => e = .returned (sumV (plusS s x)) ∧ Below w.heap.size w w' := by
  obtain ⟨d0, p0, n0, g0⟩ := s
  obtain ⟨d1, p1, n1, g1⟩ := x
  simp only at *
  obtain ⟨p, hp⟩ : ∃ p, IntKind.i64.wrap (p0 + p1) = p := ⟨_, rfl⟩
  have hp2 : wr (p0 + p1) = p := hp
  have hp0 : IntKind.i64.wrap p0 = p0 := h2
  obtain ⟨n, hn⟩ : ∃ n, n0 + n1 = n := ⟨_, rfl⟩
  obtain ⟨d, hd⟩ : ∃ d, max d0 d1 = d := ⟨_, rfl⟩
  obtain ⟨g, hg⟩ : ∃ g, min (g0 + g1) 1099511627777 = g := ⟨_, rfl⟩
  have HV := Lib.hid (show plusS ⟨d0, p0, n0, g0⟩ ⟨d1, p1, n1, g1⟩ = ⟨d, p, n, g⟩ by unfold plusS cutN; simp only [hp2, hn, hd, hg])
  clear hp2 h2
  have m0 : max 0 d0 = d0 := by omega
  have m1 : min g0 1099511627777 = g0 := by omega
  have HB := Lib.hid hB
  have hlt := hB.1
  clear hB
  go_enter Try.func44, Try.ntmps44
  go_wp2_with fail
  go_loopw [8] (fun i wr => ∃ k : Nat, i = .int .i64 k ∧ Below w.heap.size w wr ∧ Box wr w.heap.size [.int .i64 0, .int .i64 0, .int .i64 0, .int .i64 0] ∧ ((k = 0 ∧ Box wr (w.heap.size + 1) [.int .i64 0, .int .i64 0, .int .i64 0, .int .i64 0]) ∨ (k = 1 ∧ Box wr (w.heap.size + 1) [.int .i64 d0, .int .i64 p0, .int .i64 n0, .int .i64 g0]) ∨ (k = 2 ∧ Box wr (w.heap.size + 1) [.int .i64 d, .int .i64 p, .int .i64 n, .int .i64 g]))) (fun i _ => 2 - (intOf i).toNat)
  case atStart => exact ⟨0, rfl, by go_grown, (box_new w _ _ _ rfl _ rfl).alloc _, .inl ⟨rfl, box_new _ _ _ _ (by simp) _ rfl⟩⟩
  case round =>
    obtain ⟨k, rfl, hon, hX, hk⟩ := hrel
    have hD := hon.size
    have hbb := HB.out.belowB hon hlt
    have HX := Lib.hid hX
    have HO := Lib.hid hon
    rcases hk with ⟨rfl, hS⟩ | ⟨rfl, hS⟩ | ⟨rfl, hS⟩
    · have HS := Lib.hid hS
      have c0 := hbb.2.2 0 _ rfl
      have c1 := hbb.2.2 1 _ rfl
      have c2 := hbb.2.2 2 _ rfl
      have c3 := hbb.2.2 3 _ rfl
      have s0 := hS.2.2 0 _ rfl
      have s1 := hS.2.2 1 _ rfl
      have s2 := hS.2.2 2 _ rfl
      have s3 := hS.2.2 3 _ rfl
      have f0 := hS.2.1 0
      have f1 := hS.2.1 1
      have f2 := hS.2.1 2
      have f3 := hS.2.1 3
      have hl := hS.1
      have hne : ¬ w.heap.size + 1 = wr.heap.size := by omega
      clear hX hon hbb hS
      go_wp2_with fail
      go_roundw
      case rel =>
        refine ⟨1, by go_num, (((((HO.out.setCell (by simp) _).setCell (by simp) _).setCell (by simp) _).setCell (by simp) _).alloc (by simp; omega) _), ((((HX.out.set_other (by omega) _ _).set_other (by omega) _ _).set_other (by omega) _ _).set_other (by omega) _ _).alloc _, .inr (.inl ⟨rfl, ?_⟩)⟩
        exact ((((HS.out.set 0 _ (by simp)).set 1 _ (by simp)).set 2 _ (by simp)).set 3 _ (by simp)).alloc _
      case measure => simp [intOf]
    · have HS := Lib.hid hS
      have c0 := hbb.2.2 4 _ rfl
      have c1 := hbb.2.2 5 _ rfl
      have c2 := hbb.2.2 6 _ rfl
      have c3 := hbb.2.2 7 _ rfl
      have s0 := hS.2.2 0 _ rfl
      have s1 := hS.2.2 1 _ rfl
      have s2 := hS.2.2 2 _ rfl
      have s3 := hS.2.2 3 _ rfl
      have f0 := hS.2.1 0
      have f1 := hS.2.1 1
      have f2 := hS.2.1 2
      have f3 := hS.2.1 3
      have hl := hS.1
      have hne : ¬ w.heap.size + 1 = wr.heap.size := by omega
      clear hX hon hbb hS
      go_wp2_with fail
      go_roundw
      case rel =>
        refine ⟨2, by go_num, (((((HO.out.setCell (by simp) _).setCell (by simp) _).setCell (by simp) _).setCell (by simp) _).alloc (by simp; omega) _), ((((HX.out.set_other (by omega) _ _).set_other (by omega) _ _).set_other (by omega) _ _).set_other (by omega) _ _).alloc _, .inr (.inr ⟨rfl, ?_⟩)⟩
        exact ((((HS.out.set 0 _ (by simp)).set 1 _ (by simp)).set 2 _ (by simp)).set 3 _ (by simp)).alloc _
      case measure => simp [intOf]
    · have HS := Lib.hid hS
      have s0 := hS.2.2 0 _ rfl
      have s1 := hS.2.2 1 _ rfl
      have s2 := hS.2.2 2 _ rfl
      have s3 := hS.2.2 3 _ rfl
      have x0 := hX.2.2 0 _ rfl
      have x1 := hX.2.2 1 _ rfl
      have x2 := hX.2.2 2 _ rfl
      have x3 := hX.2.2 3 _ rfl
      have f0 := hX.2.1 0
      have f1 := hX.2.1 1
      have f2 := hX.2.1 2
      have f3 := hX.2.1 3
      have hl := hX.1
      clear hX hon hbb hS
      go_wp2_with fail
      have hY := (((HX.out.set 0 (.int .i64 d) (by simp)).set 1 (.int .i64 p) (by simp)).set 2 (.int .i64 n) (by simp)).set 3 (.int .i64 g) (by simp)
      have r0 := hY.2.2 0 _ rfl
      have r1 := hY.2.2 1 _ rfl
      have r2 := hY.2.2 2 _ rfl
      have r3 := hY.2.2 3 _ rfl
      refine bodyPost_ret (v := .agg #[.int .i64 d, .int .i64 p, .int .i64 n, .int .i64 g]) (by simp [results, Try.results44, go_sem, r0, r1, r2, r3]) rfl ⟨by rw [HV.out]; rfl, ?_⟩
      exact (((HO.out.setCell (by simp) _).setCell (by simp) _).setCell (by simp) _).setCell (by simp) _
theorem ptogether_to {s x y : Sm} (hy : plusS s x = y) {b c : Nat} (w : World) (hB : Box w b [.int .i64 s.depth, .int .i64 s.pieces, .int .i64 s.nodes, .int .i64 s.heights, .int .i64 x.depth, .int .i64 x.pieces, .int .i64 x.nodes, .int .i64 x.heights])
    (h1 : 0 ≤ s.depth) (h2 : wr s.pieces = s.pieces) (h3 : 0 ≤ s.nodes ∧ s.nodes ≤ 1152921504606846976) (h4 : 0 ≤ s.heights ∧ s.heights ≤ 1099511627777) (k1 : 0 ≤ x.depth) (k3 : 0 ≤ x.nodes ∧ x.nodes ≤ 1152921504606846976) (k4 : 0 ≤ x.heights ∧ x.heights ≤ 1152921504606846976) :
    Calls Try.prog 44 #[.slice (some ⟨b, 0, none⟩) 2 c] w fun e w' => e = .returned (sumV y) ∧ Below w.heap.size w w' := by
  subst hy; exact ptogether_any s x b c w hB h1 h2 h3 h4 k1 k3 k4
end Go.Proofs.Ytildplbdhnodjaa
/- Part of a row of nodes. Nothing of the program stands here. -/
namespace Go.Proofs.Ytildplbdhnodjaa
open Go.RowKit
set_option linter.unusedVariables false
set_option linter.unusedSimpArgs false
theorem Sees.sub {w : World} {b off n : Nat} {l : List Nd} (h : Sees w (some ⟨b, off, none⟩) n l) {lo k : Nat} (hk : lo + k ≤ n) : Sees w (some ⟨b, off + lo * 20, none⟩) k ((l.drop lo).take k) := by
  obtain ⟨zs, h1, h2, h3⟩ := h
  have hz := h1.1
  have hb := h1.2.1
  refine ⟨(zs.drop lo).take k, ⟨by rw [List.length_take, List.length_drop]; omega, by omega, fun hk0 => ?_⟩, by rw [List.length_take, List.length_drop, List.length_take, List.length_drop, h2], fun i m x e1 e2 => ?_⟩
  · obtain ⟨b', off', e, hl, hc⟩ := h1.2.2 (by omega)
    injection e with e
    injection e with e3 e4
    subst e3 e4
    refine ⟨b, off + lo * 20, rfl, hl, fun i x hx j v hv => ?_⟩
    have hi : i < k := by
      have := (List.getElem?_eq_some_iff.1 hx).1
      rw [List.length_take] at this
      omega
    rw [List.getElem?_take_of_lt hi, List.getElem?_drop] at hx
    have := hc (lo + i) x hx j v hv
    rw [← this]
    congr 2
    omega
  · have hi : i < k := by
      have := (List.getElem?_eq_some_iff.1 e1).1
      rw [List.length_take] at this
      omega
    rw [List.getElem?_take_of_lt hi, List.getElem?_drop] at e1 e2
    exact h3 _ m x e1 e2
end Go.Proofs.Ytildplbdhnodjaa
