import Derived.Test.YtechccoongilcaaDoorJD702
import Derived.Test.YtechccoongilcaaDoorJD703
import Derived.OwnWalk
import Derived.Lib.MinMax
import Derived.Lib.LaidU8T
import Derived.PinnedBridge
import Derived.Lib.LaidIn
import Derived.LaidMore
import Derived.MakeChecks
import Derived.Test.YtechccoongilcaaDoorJD704
import Derived.Test.YtechccoongilcaaDoorJD700
import Derived.Test.YtechccoongilcaaDoorJD701
import Derived.Test.YtechccoongilcaaDoorJD706
import Derived.Deep.QuietTactic
import Derived.BigQuiet
import Derived.Test.YtechccoongilcaaDoorJD707
import Derived.ChangeMaps5
import Derived.Deep.RegionHeld3
import Derived.Deep.MidRow
/- A document's canonical text is read as its nodes. Nothing of the program stands here. (Written by program: tools/drafts/gencanon.py.) -/
namespace Go.Proofs.YtechccoongilcaaDoor
open Go
set_option linter.unusedVariables false
set_option linter.unusedSimpArgs false
theorem told_up {told told' : List Int} {c : Int} {L : List Int} (h : told' = told ∨ told' = told ++ [c]) (k : ∀ d ∈ told, d ∈ L) : ∀ d ∈ told', d ∈ c :: L := by
  intro d hd
  rcases h with rfl | rfl
  · exact List.mem_cons_of_mem _ (k d hd)
  · rcases List.mem_append.1 hd with hd | hd
    · exact List.mem_cons_of_mem _ (k d hd)
    · simp at hd; subst hd; simp
theorem limM (n : Int) : (limitB n) = limitB n := rfl
theorem sty_attrs {l : List Tok} {i : Nat} {s : Sty} {ps : List Pc} (hs : s.fits) (hK : KAt l i (styP s ++ ps)) (hno : ∀ c ∈ lettersB, sgB l (i + tokN (styP s)) c = false) : Attrs l i .plain [] (.ok s (i + tokN (styP s))) := by
  obtain ⟨s0, s1, s2, s3, s4, s5, s6, s7, s8, s9, s10, s11⟩ := s
  obtain ⟨⟨⟨a0, b0⟩, ⟨a1, b1⟩, ⟨a2, b2⟩, ⟨a3, b3⟩, ⟨a4, b4⟩, ⟨a5, b5⟩⟩, ⟨a6, b6⟩, ⟨a7, b7⟩, ⟨a8, b8⟩, ⟨a9, b9⟩, ⟨a10, b10⟩, ⟨a11, b11⟩⟩ := hs
  simp only at *
  unfold styP at hK hno ⊢
  simp only [List.append_assoc] at hK
  simp only [tokN_append] at hno ⊢
  refine attr_step (c := 109) (n := s0) (p := 0) (acc := ⟨0, 0, 0, 0, 0, 2, 2, 0, 0, 0, 0, 0⟩) (by decide) (by simp) (by omega) (fun hne => ⟨by unfold limitB; simp [maxN]; omega, by unfold limitB; simp [maxN]; unfold maxN at *; omega⟩) (fun e => by rw [e]; rfl) hK (fun t1 e1 K1 => ?_)
  have T1 := told_up (L := []) e1 (fun d hd => by simp at hd)
  have hw1 : withB ⟨0, 0, 0, 0, 0, 2, 2, 0, 0, 0, 0, 0⟩ 109 s0 = ⟨s0, 0, 0, 0, 0, 2, 2, 0, 0, 0, 0, 0⟩ := rfl
  rw [hw1]
  refine attr_step (c := 110) (n := s1) (p := 0) (acc := ⟨s0, 0, 0, 0, 0, 2, 2, 0, 0, 0, 0, 0⟩) (by decide) (fun h => absurd (T1 _ h) (by decide)) (by omega) (fun hne => ⟨by unfold limitB; simp [maxN]; omega, by unfold limitB; simp [maxN]; unfold maxN at *; omega⟩) (fun e => by rw [e]; rfl) K1 (fun t2 e2 K2 => ?_)
  have T2 := told_up e2 T1
  have hw2 : withB ⟨s0, 0, 0, 0, 0, 2, 2, 0, 0, 0, 0, 0⟩ 110 s1 = ⟨s0, s1, 0, 0, 0, 2, 2, 0, 0, 0, 0, 0⟩ := rfl
  rw [hw2]
  refine attr_step (c := 112) (n := s2) (p := 0) (acc := ⟨s0, s1, 0, 0, 0, 2, 2, 0, 0, 0, 0, 0⟩) (by decide) (fun h => absurd (T2 _ h) (by decide)) (by omega) (fun hne => ⟨by unfold limitB; simp [maxN]; omega, by unfold limitB; simp [maxN]; unfold maxN at *; omega⟩) (fun e => by rw [e]; rfl) K2 (fun t3 e3 K3 => ?_)
  have T3 := told_up e3 T2
  have hw3 : withB ⟨s0, s1, 0, 0, 0, 2, 2, 0, 0, 0, 0, 0⟩ 112 s2 = ⟨s0, s1, s2, 0, 0, 2, 2, 0, 0, 0, 0, 0⟩ := rfl
  rw [hw3]
  refine attr_step (c := 113) (n := s3) (p := 0) (acc := ⟨s0, s1, s2, 0, 0, 2, 2, 0, 0, 0, 0, 0⟩) (by decide) (fun h => absurd (T3 _ h) (by decide)) (by omega) (fun hne => ⟨by unfold limitB; simp [maxN]; omega, by unfold limitB; simp [maxN]; unfold maxN at *; omega⟩) (fun e => by rw [e]; rfl) K3 (fun t4 e4 K4 => ?_)
  have T4 := told_up e4 T3
  have hw4 : withB ⟨s0, s1, s2, 0, 0, 2, 2, 0, 0, 0, 0, 0⟩ 113 s3 = ⟨s0, s1, s2, s3, 0, 2, 2, 0, 0, 0, 0, 0⟩ := rfl
  rw [hw4]
  refine attr_step (c := 105) (n := s4) (p := 0) (acc := ⟨s0, s1, s2, s3, 0, 2, 2, 0, 0, 0, 0, 0⟩) (by decide) (fun h => absurd (T4 _ h) (by decide)) (by omega) (fun hne => ⟨by unfold limitB; simp [maxN]; omega, by unfold limitB; simp [maxN]; unfold maxN at *; omega⟩) (fun e => by rw [e]; rfl) K4 (fun t5 e5 K5 => ?_)
  have T5 := told_up e5 T4
  have hw5 : withB ⟨s0, s1, s2, s3, 0, 2, 2, 0, 0, 0, 0, 0⟩ 105 s4 = ⟨s0, s1, s2, s3, s4, 2, 2, 0, 0, 0, 0, 0⟩ := rfl
  rw [hw5]
  refine attr_step (c := 111) (n := s5) (p := 2) (acc := ⟨s0, s1, s2, s3, s4, 2, 2, 0, 0, 0, 0, 0⟩) (by decide) (fun h => absurd (T5 _ h) (by decide)) (by omega) (fun hne => ⟨by unfold limitB; simp [maxN]; omega, by unfold limitB; simp [maxN]; unfold maxN at *; omega⟩) (fun e => by rw [e]; rfl) K5 (fun t6 e6 K6 => ?_)
  have T6 := told_up e6 T5
  have hw6 : withB ⟨s0, s1, s2, s3, s4, 2, 2, 0, 0, 0, 0, 0⟩ 111 s5 = ⟨s0, s1, s2, s3, s4, s5, 2, 0, 0, 0, 0, 0⟩ := rfl
  rw [hw6]
  refine attr_step (c := 119) (n := s6) (p := 2) (acc := ⟨s0, s1, s2, s3, s4, s5, 2, 0, 0, 0, 0, 0⟩) (by decide) (fun h => absurd (T6 _ h) (by decide)) (by omega) (fun hne => ⟨by unfold limitB; simp [maxN]; omega, by unfold limitB; simp [maxN]; unfold maxN at *; omega⟩) (fun e => by rw [e]; rfl) K6 (fun t7 e7 K7 => ?_)
  have T7 := told_up e7 T6
  have hw7 : withB ⟨s0, s1, s2, s3, s4, s5, 2, 0, 0, 0, 0, 0⟩ 119 s6 = ⟨s0, s1, s2, s3, s4, s5, s6, 0, 0, 0, 0, 0⟩ := rfl
  rw [hw7]
  refine attr_step (c := 104) (n := s7) (p := 0) (acc := ⟨s0, s1, s2, s3, s4, s5, s6, 0, 0, 0, 0, 0⟩) (by decide) (fun h => absurd (T7 _ h) (by decide)) (by omega) (fun hne => ⟨by unfold limitB; simp [maxN]; omega, by unfold limitB; simp [maxN]; unfold maxN at *; omega⟩) (fun e => by rw [e]; rfl) K7 (fun t8 e8 K8 => ?_)
  have T8 := told_up e8 T7
  have hw8 : withB ⟨s0, s1, s2, s3, s4, s5, s6, 0, 0, 0, 0, 0⟩ 104 s7 = ⟨s0, s1, s2, s3, s4, s5, s6, s7, 0, 0, 0, 0⟩ := rfl
  rw [hw8]
  refine attr_step (c := 66) (n := s8) (p := 0) (acc := ⟨s0, s1, s2, s3, s4, s5, s6, s7, 0, 0, 0, 0⟩) (by decide) (fun h => absurd (T8 _ h) (by decide)) (by omega) (fun hne => ⟨by unfold limitB; simp [maxN]; omega, by unfold limitB; simp [maxN]; unfold maxN at *; omega⟩) (fun e => by rw [e]; rfl) K8 (fun t9 e9 K9 => ?_)
  have T9 := told_up e9 T8
  have hw9 : withB ⟨s0, s1, s2, s3, s4, s5, s6, s7, 0, 0, 0, 0⟩ 66 s8 = ⟨s0, s1, s2, s3, s4, s5, s6, s7, s8, 0, 0, 0⟩ := rfl
  rw [hw9]
  refine attr_step (c := 65) (n := s9) (p := 0) (acc := ⟨s0, s1, s2, s3, s4, s5, s6, s7, s8, 0, 0, 0⟩) (by decide) (fun h => absurd (T9 _ h) (by decide)) (by omega) (fun hne => ⟨by unfold limitB; simp [maxN]; omega, by unfold limitB; simp [maxN]; unfold maxN at *; omega⟩) (fun e => by rw [e]; rfl) K9 (fun t10 e10 K10 => ?_)
  have T10 := told_up e10 T9
  have hw10 : withB ⟨s0, s1, s2, s3, s4, s5, s6, s7, s8, 0, 0, 0⟩ 65 s9 = ⟨s0, s1, s2, s3, s4, s5, s6, s7, s8, s9, 0, 0⟩ := rfl
  rw [hw10]
  refine attr_step (c := 73) (n := s10) (p := 0) (acc := ⟨s0, s1, s2, s3, s4, s5, s6, s7, s8, s9, 0, 0⟩) (by decide) (fun h => absurd (T10 _ h) (by decide)) (by omega) (fun hne => ⟨by unfold limitB; simp [maxN]; omega, by unfold limitB; simp [maxN]; unfold maxN at *; omega⟩) (fun e => by rw [e]; rfl) K10 (fun t11 e11 K11 => ?_)
  have T11 := told_up e11 T10
  have hw11 : withB ⟨s0, s1, s2, s3, s4, s5, s6, s7, s8, s9, 0, 0⟩ 73 s10 = ⟨s0, s1, s2, s3, s4, s5, s6, s7, s8, s9, s10, 0⟩ := rfl
  rw [hw11]
  refine attr_step (c := 99) (n := s11) (p := 0) (acc := ⟨s0, s1, s2, s3, s4, s5, s6, s7, s8, s9, s10, 0⟩) (by decide) (fun h => absurd (T11 _ h) (by decide)) (by omega) (fun hne => ⟨by unfold limitB; simp [maxN]; omega, by unfold limitB; simp [maxN]; unfold maxN at *; omega⟩) (fun e => by rw [e]; rfl) K11 (fun t12 e12 K12 => ?_)
  have T12 := told_up e12 T11
  have hw12 : withB ⟨s0, s1, s2, s3, s4, s5, s6, s7, s8, s9, s10, 0⟩ 99 s11 = ⟨s0, s1, s2, s3, s4, s5, s6, s7, s8, s9, s10, s11⟩ := rfl
  rw [hw12]
  have hpos : i + (tokN (attrP 109 s0 0) + (tokN (attrP 110 s1 0) + (tokN (attrP 112 s2 0) + (tokN (attrP 113 s3 0) + (tokN (attrP 105 s4 0) + (tokN (attrP 111 s5 2) + (tokN (attrP 119 s6 2) + (tokN (attrP 104 s7 0) + (tokN (attrP 66 s8 0) + (tokN (attrP 65 s9 0) + (tokN (attrP 73 s10 0) + tokN (attrP 99 s11 0)))))))))))) = i + tokN (attrP 109 s0 0) + tokN (attrP 110 s1 0) + tokN (attrP 112 s2 0) + tokN (attrP 113 s3 0) + tokN (attrP 105 s4 0) + tokN (attrP 111 s5 2) + tokN (attrP 119 s6 2) + tokN (attrP 104 s7 0) + tokN (attrP 66 s8 0) + tokN (attrP 65 s9 0) + tokN (attrP 73 s10 0) + tokN (attrP 99 s11 0) := by omega
  rw [hpos]
  refine .stop (no_letter fun c hc => ?_)
  have := hno c hc
  simp only [Nat.add_assoc] at this ⊢
  exact this
theorem words_of {l : List Tok} : ∀ (ws : List Int) (k : Nat) (out : List Int), KAt l k (wordsP ws) → (∀ n ∈ ws, okN n 1 maxN) → nmB l (k + ws.length) 1 maxN = false → Words l k out (out ++ ws) (k + ws.length)
  | [], k, out, _, _, hn => by simpa using Words.stop (out := out) hn
  | w :: ws, k, out, hK, hb, hn => by
    have hK' : KAt l k (.b 32 :: .n w.toNat :: wordsP ws) := hK
    obtain ⟨k1, k2⟩ := hK'
    obtain ⟨g1, g2, _⟩ := nm_of k1
    have hw := hb w (by simp)
    have hz : ((w.toNat : Nat) : Int) = w := by have := hw.1; omega
    rw [hz] at g1 g2
    refine .step (g2 _ _ hw.1 hw.2) ?_
    rw [g1]
    have := words_of ws (k + 1) (out ++ [w]) k2 (fun n h => hb n (by simp [h])) (by rw [show k + 1 + ws.length = k + (w :: ws).length by simp; omega]; exact hn)
    rw [List.append_assoc] at this
    rw [show k + (w :: ws).length = k + 1 + ws.length by simp; omega]
    exact this
theorem tok_words : ∀ (ws : List Int), tokN (wordsP ws) = ws.length
  | [] => rfl
  | w :: ws => by
    show tokN (.b 32 :: .n w.toNat :: wordsP ws) = _
    simp only [tokN, List.length_cons, tok_words ws]
theorem box_of {l : List Tok} {i : Nat} {kind side e w h : Int} (hK : KAt l i [.n w.toNat, .b 32, .n h.toNat, .s e]) (hw : okN w 1 maxN) (hh : okN h 1 maxN) : boxR l i kind side e = .ok [box_ kind side w h] (i + 3) := by
  obtain ⟨k1, k2, k3, _⟩ := hK
  obtain ⟨g1, g2, _⟩ := nm_of k1
  obtain ⟨f1, f2, _⟩ := nm_of k2
  have hz : ((w.toNat : Nat) : Int) = w := by have := hw.1; omega
  have hy : ((h.toNat : Nat) : Int) = h := by have := hh.1; omega
  rw [hz] at g1 g2
  rw [hy] at f1 f2
  unfold boxR
  rw [g2 _ _ hw.1 hw.2, f2 _ _ hh.1 hh.2, sg_of k3, g1, f1]
  simp
/-- a node that has none within. -/
theorem leaf_parse {l : List Tok} {i : Nat} {x : Nd} (hf : x.fits) (hk : x.kind ≠ 1) (hs : x.size = 1) (hK : KAt l i (leafP x)) : Parse l false i [] (.ok [x] (i + tokN (leafP x))) ∧ opens l i = true := by
  obtain ⟨kind, size, sty, line, space, ws, side, w, h⟩ := x
  simp only at hs hk
  subst hs
  rcases hf with ⟨e, _⟩ | ⟨e, e1, e2, e3, e4, e5, e6, e7, e8⟩ | ⟨e, e1, e2, e3, e4, e5, e6, e7⟩ | ⟨e, e1, e2, e3, e4, e5, e6, e7⟩
  · exact absurd e hk
  · simp only at e e1 e2 e3 e4 e5 e6 e7 e8
    subst e e1 e6 e7 e8
    have hl : leafP ⟨2, 1, .none, line, space, ws, 0, 0, 0⟩ = [.s 40, .n line.toNat, .b 32, .n space.toNat] ++ wordsP ws ++ [.s 41] := rfl
    rw [hl] at hK ⊢
    rw [List.append_assoc] at hK
    obtain ⟨⟨k1, k2, k3, _⟩, k4⟩ := (KAt_append l _ _ i).1 hK
    obtain ⟨k5, k6⟩ := (KAt_append l _ _ _).1 k4
    obtain ⟨k6, _⟩ := k6
    obtain ⟨g1, g2, _⟩ := nm_of k2
    obtain ⟨f1, f2, _⟩ := nm_of k3
    have hz : ((line.toNat : Nat) : Int) = line := by have := e2.1; omega
    have hy : ((space.toNat : Nat) : Int) = space := by have := e3.1; omega
    rw [hz] at g1 g2
    rw [hy] at f1 f2
    have hN : tokN [Pc.s 40, .n line.toNat, .b 32, .n space.toNat] = 3 := rfl
    rw [hN] at k5 k6
    rw [tok_words] at k6
    have hW := words_of ws (i + 3) [] k5 e5 (nm_sg k6 _ _)
    rw [List.nil_append] at hW
    have := Parse.text (by rw [sg_of k1]; rfl) (g2 _ _ e2.1 e2.2) (f2 _ _ e3.1 e3.2) hW e4 (by rw [sg_of k6]; rfl)
    rw [g1, f1] at this
    refine ⟨?_, by unfold opens; rw [sg_of k1, sg_of k1]; rfl⟩
    rw [tokN_append, tokN_append, hN, tok_words, show i + (3 + ws.length + tokN [Pc.s 41]) = i + 3 + ws.length + 1 by show i + (3 + ws.length + 1) = _; omega]
    exact this
  · simp only at e e1 e2 e3 e4 e5 e6 e7
    subst e e1 e2 e3 e4 e7
    obtain ⟨k1, k2⟩ : KAt l i (.s 123 :: [.n w.toNat, .b 32, .n h.toNat, .s 125]) := hK
    have hb := box_of (kind := 3) (side := 0) k2 e5 e6
    have := Parse.mono (l := l) (i := i) (by rw [sg_of k1]; rfl)
    rw [hb] at this
    exact ⟨this, by unfold opens; rw [sg_of k1, sg_of k1, sg_of k1]; rfl⟩
  · simp only at e e1 e2 e3 e4 e5 e6 e7
    subst e e1 e2 e3 e4
    have hsd : side = 1 ∨ side = 2 := by have := e7.1; have := e7.2; omega
    rcases hsd with rfl | rfl
    · obtain ⟨k1, k2, k3⟩ : KAt l i (.s 60 :: .s 76 :: [.n w.toNat, .b 32, .n h.toNat, .s 62]) := hK
      have hb := box_of (kind := 4) (side := 1) k3 e5 e6
      have := Parse.left (l := l) (i := i) (by rw [sg_of k1]; rfl) (by rw [sg_of k2]; rfl)
      rw [show i + 2 = i + 1 + 1 from rfl, hb] at this
      exact ⟨this, by unfold opens; rw [sg_of k1, sg_of k1, sg_of k1, sg_of k1]; rfl⟩
    · obtain ⟨k1, k2, k3⟩ : KAt l i (.s 60 :: .s 82 :: [.n w.toNat, .b 32, .n h.toNat, .s 62]) := hK
      have hb := box_of (kind := 4) (side := 2) k3 e5 e6
      have := Parse.right (l := l) (i := i) (by rw [sg_of k1]; rfl) (by rw [sg_of k2]; rfl)
      rw [show i + 2 = i + 1 + 1 from rfl, hb] at this
      exact ⟨this, by unfold opens; rw [sg_of k1, sg_of k1, sg_of k1, sg_of k1]; rfl⟩
/-- what stands behind the attributes is no letter. -/
def headP : List Pc → Prop
  | .s c :: _ => c ∈ ([91, 40, 123, 60, 93] : List Int)
  | _ => False
theorem head_can {x : Nd} {a : List Pc} (h : x.fits) : headP (if x.kind = 1 then [.s 91] ++ styP x.sty ++ a ++ [.s 93] else leafP x) := by
  rcases h with ⟨e, _⟩ | ⟨e, _⟩ | ⟨e, _⟩ | ⟨e, _, _, _, _, _, _, e7⟩
  · rw [if_pos e]; show (91 : Int) ∈ _; decide
  · rw [if_neg (by omega)]; unfold leafP; rw [if_pos e]; show (40 : Int) ∈ _; decide
  · rw [if_neg (by omega)]; unfold leafP; rw [if_neg (by omega), if_pos e]; show (123 : Int) ∈ _; decide
  · rw [if_neg (by omega)]; unfold leafP; rw [if_neg (by omega), if_neg (by omega)]
    have hsd : x.side = 1 ∨ x.side = 2 := by have := e7.1; have := e7.2; omega
    rcases hsd with hs | hs
    · rw [if_pos ⟨e, hs⟩]; show (60 : Int) ∈ _; decide
    · rw [if_neg (by omega), if_pos ⟨e, hs⟩]; show (60 : Int) ∈ _; decide
theorem headP_append {a b : List Pc} (h : headP a) : headP (a ++ b) := by
  match a, h with
  | .s c :: a, h => exact h
theorem headP_no {l : List Tok} {i : Nat} {a : List Pc} (h : headP a) (hK : KAt l i a) : ∀ c ∈ lettersB, sgB l i c = false := by
  match a, h with
  | .s d :: a, h =>
    intro c hc
    rw [sg_of hK.1]
    rw [decide_eq_false_iff_not]
    rintro rfl
    have : ∀ c ∈ lettersB, c ∉ ([91, 40, 123, 60, 93] : List Int) := by decide
    exact this d hc h
/-- a document's nodes are read on. -/
theorem can_parse {l : List Tok} {x : List Nd} (hF : Forest x) : (∀ y ∈ x, y.fits) → ∀ (b : List Pc) (i : Nat) (out : List Nd) (r : Res (List Nd)), tokN b = 0 → KAt l i (canP b x) → Parse l true (i + tokN (canP b x)) (out ++ x) r → Parse l true i out r := by
  induction hF with
  | nil => intro _ b i out r _ _ h; simpa [canP_nil, tokN] using h
  | @cons x inner rest hs hk hF1 hF2 ih1 ih2 =>
    intro hfit b i out r hb hK hP
    have hxf := hfit x (by simp)
    rw [canP_cons b x inner rest hs] at hK hP
    obtain ⟨hK0, hK3⟩ := (KAt_append l _ _ i).1 hK
    obtain ⟨hK1, _⟩ := (KAt_append l _ _ i).1 hK0
    clear hK0 hK
    rw [tokN_append, hb, Nat.add_zero] at hK3
    rw [tokN_append, tokN_append, hb, Nat.add_zero, ← Nat.add_assoc] at hP
    have hnode : Parse l false i [] (.ok (x :: inner) (i + tokN (if x.kind = 1 then [.s 91] ++ styP x.sty ++ canP [] inner ++ [.s 93] else leafP x))) ∧ opens l i = true := by
      by_cases h1 : x.kind = 1
      · rw [if_pos h1] at hK1 ⊢
        obtain ⟨q1, q4⟩ := (KAt_append l _ _ i).1 hK1
        obtain ⟨q1, q3⟩ := (KAt_append l _ _ i).1 q1
        obtain ⟨q1, q2⟩ := (KAt_append l _ _ i).1 q1
        obtain ⟨q1, _⟩ := q1
        obtain ⟨q4, _⟩ := q4
        rw [tokN_append, tokN_append] at q4
        rw [tokN_append] at q3
        have hone : tokN [Pc.s 91] = 1 := rfl
        rw [hone] at q2 q3 q4
        have hsf : x.sty.fits := by
          rcases hxf with ⟨_, h, _⟩ | ⟨e, _⟩ | ⟨e, _⟩ | ⟨e, _⟩
          · exact h
          · omega
          · omega
          · omega
        have hpos : i + (1 + tokN (styP x.sty)) = i + 1 + tokN (styP x.sty) := by omega
        have hpos2 : i + (1 + tokN (styP x.sty) + tokN (canP [] inner)) = i + 1 + tokN (styP x.sty) + tokN (canP [] inner) := by omega
        rw [hpos] at q3
        rw [hpos2] at q4
        have hno : ∀ c ∈ lettersB, sgB l (i + 1 + tokN (styP x.sty)) c = false := by
          cases hF1 with
          | nil =>
            rw [canP_nil] at q4
            simp only [tokN, Nat.add_zero] at q4
            intro c hc
            rw [sg_of q4, decide_eq_false_iff_not]
            rintro rfl
            exact absurd hc (by decide)
          | @cons y i1 r1 g1 g2 g3 g4 =>
            have hy := hfit y (by simp)
            rw [canP_cons [] y i1 r1 g1, List.append_assoc] at q3
            exact headP_no (headP_append (head_can hy)) q3
        have hA := sty_attrs (ps := []) hsf (by rw [List.append_nil]; exact q2) hno
        have hI := ih1 (fun y hy => hfit y (by simp [hy])) [] (i + 1 + tokN (styP x.sty)) [] (.ok inner (i + 1 + tokN (styP x.sty) + tokN (canP [] inner))) rfl q3 (by
          rw [List.nil_append]
          exact .stop (by unfold opens; rw [sg_of q4, sg_of q4, sg_of q4, sg_of q4]; rfl))
        have hB := Parse.block (by rw [sg_of q1]; rfl) hA hI (by rw [sg_of q4]; rfl)
        have hx : blk x.sty inner = x := by
          obtain ⟨kind, size, sty, line, space, ws, side, w, h⟩ := x
          rcases hxf with ⟨e, _, e1, e2, e3, e4, e5, e6⟩ | ⟨e, _⟩ | ⟨e, _⟩ | ⟨e, _⟩
          · simp only at *
            subst e e1 e2 e3 e4 e5 e6 hs
            rfl
          · simp only at *; omega
          · simp only at *; omega
          · simp only at *; omega
        rw [hx] at hB
        refine ⟨?_, by unfold opens; rw [sg_of q1]; rfl⟩
        rw [tokN_append, tokN_append, tokN_append, hone, show i + (1 + tokN (styP x.sty) + tokN (canP [] inner) + tokN [Pc.s 93]) = i + 1 + tokN (styP x.sty) + tokN (canP [] inner) + 1 by show i + (1 + tokN (styP x.sty) + tokN (canP [] inner) + 1) = _; omega]
        exact hB
      · rw [if_neg h1] at hK1 ⊢
        have hin := hk h1
        subst hin
        exact leaf_parse hxf h1 (by rw [hs]; rfl) hK1
    refine .more hnode.2 hnode.1 (ih2 (fun y hy => hfit y (by simp [hy])) b _ _ r hb hK3 ?_)
    rw [show out ++ (x :: inner) ++ rest = out ++ x :: (inner ++ rest) by simp]
    exact hP
/-- the canonical text of a document is read as it. -/
theorem can_read {s : ByteArray} {x : List Nd} (hd : IsDoc x) (hL : LiesAt s 0 (textOf (canP [.b 10] x))) (hend : (textOf (canP [.b 10] x)).length = s.size) (hf : ∀ p ∈ canP [.b 10] x, p.fine) (hp : Parts (canP [.b 10] x)) : ReadB s (some x, 0) := by
  refine .inr ⟨_, 0, lexB_pieces hL hend hf hp, .ok ?_⟩
  have hK := KAt_toks (canP [.b 10] x) [] 0
  rw [List.nil_append] at hK
  refine can_parse hd.2 hd.1 [.b 10] 0 [] _ rfl hK ?_
  rw [List.nil_append, Nat.zero_add, toks_len]
  refine .stop ?_
  have hno : ∀ c, sgB (toksP' 0 (canP [.b 10] x)) (tokN (canP [.b 10] x)) c = false := fun c => by
    unfold sgB
    rw [List.getElem?_eq_none (by rw [toks_len]; exact Nat.le_refl _)]
  unfold opens
  rw [hno, hno, hno, hno]
  rfl
end Go.Proofs.YtechccoongilcaaDoor
/- A canonical text's pieces are fine; its bytes. Nothing of the program stands here. -/
namespace Go.Proofs.YtechccoongilcaaDoor
open Go
set_option linter.unusedVariables false
set_option linter.unusedSimpArgs false
def startsN : List Pc → Prop
  | .n _ :: _ => True
  | _ => False
theorem parts_append : ∀ (a c : List Pc), Parts a → Parts c → ¬ startsN c → Parts (a ++ c)
  | [], c, _, hc, _ => hc
  | .s d :: a, c, ha, hc, hn => parts_append a c ha hc hn
  | .b d :: a, c, ha, hc, hn => parts_append a c ha hc hn
  | [.n z], c, ha, hc, hn => by
    cases c with
    | nil => exact trivial
    | cons q c => cases q with
      | n y => exact absurd trivial hn
      | s d => exact hc
      | b d => exact hc
  | .n z :: .n y :: a, c, ha, hc, hn => absurd ha (by simp [Parts])
  | .n z :: .s d :: a, c, ha, hc, hn => parts_append (.s d :: a) c ha hc hn
  | .n z :: .b d :: a, c, ha, hc, hn => parts_append (.b d :: a) c ha hc hn
theorem starts_append {a c : List Pc} (ha : ¬ startsN a) (hc : ¬ startsN c) : ¬ startsN (a ++ c) := by
  cases a with
  | nil => exact hc
  | cons p a => cases p with
    | n z => exact absurd trivial ha
    | s d => exact fun h => h
    | b d => exact fun h => h
theorem attrP_parts (c n p : Int) : Parts (attrP c n p) ∧ ¬ startsN (attrP c n p) := by
  unfold attrP
  split
  · exact ⟨trivial, fun h => h⟩
  · exact ⟨trivial, fun h => h⟩
theorem both_parts {a c : List Pc} (ha : Parts a ∧ ¬ startsN a) (hc : Parts c ∧ ¬ startsN c) : Parts (a ++ c) ∧ ¬ startsN (a ++ c) := ⟨parts_append a c ha.1 hc.1 hc.2, starts_append ha.2 hc.2⟩
theorem styP_parts (s : Sty) : Parts (styP s) ∧ ¬ startsN (styP s) := by
  unfold styP
  exact both_parts (attrP_parts _ _ _) (both_parts (attrP_parts _ _ _) (both_parts (attrP_parts _ _ _) (both_parts (attrP_parts _ _ _) (both_parts (attrP_parts _ _ _) (both_parts (attrP_parts _ _ _) (both_parts (attrP_parts _ _ _) (both_parts (attrP_parts _ _ _) (both_parts (attrP_parts _ _ _) (both_parts (attrP_parts _ _ _) (both_parts (attrP_parts _ _ _) (attrP_parts _ _ _)))))))))))
theorem wordsP_parts : ∀ (ws : List Int), Parts (wordsP ws) ∧ ¬ startsN (wordsP ws)
  | [] => ⟨trivial, fun h => h⟩
  | w :: ws => both_parts (a := [.b 32, .n w.toNat]) ⟨trivial, fun h => h⟩ (wordsP_parts ws)
theorem leafP_parts (x : Nd) : Parts (leafP x) ∧ ¬ startsN (leafP x) := by
  unfold leafP
  split
  · exact both_parts (both_parts ⟨trivial, fun h => h⟩ (wordsP_parts _)) ⟨trivial, fun h => h⟩
  split
  · exact ⟨trivial, fun h => h⟩
  split
  · exact ⟨trivial, fun h => h⟩
  split
  · exact ⟨trivial, fun h => h⟩
  · exact ⟨trivial, fun h => h⟩
theorem canP_parts {x : List Nd} (hF : Forest x) : ∀ (b : List Pc), Parts b → ¬ startsN b → Parts (canP b x) ∧ ¬ startsN (canP b x) := by
  induction hF with
  | nil => intro b _ _; exact ⟨trivial, fun h => h⟩
  | @cons x inner rest hs hk hF1 hF2 ih1 ih2 =>
    intro b hb1 hb2
    rw [canP_cons b x inner rest hs]
    refine both_parts (both_parts ?_ ⟨hb1, hb2⟩) (ih2 b hb1 hb2)
    split
    · exact both_parts (both_parts (both_parts ⟨trivial, fun h => h⟩ (styP_parts _)) (ih1 [] trivial (fun h => h))) ⟨trivial, fun h => h⟩
    · exact leafP_parts x
def fineL (ps : List Pc) : Prop := ∀ p ∈ ps, p.fine
theorem fine_append {a c : List Pc} (ha : fineL a) (hc : fineL c) : fineL (a ++ c) := fun p hp => by
  rcases List.mem_append.1 hp with h | h
  · exact ha p h
  · exact hc p h
theorem fine_nil : fineL [] := fun p hp => by cases hp
theorem fine_cons {p : Pc} {a : List Pc} (h : p.fine) (ha : fineL a) : fineL (p :: a) := fun q hq => by
  rcases List.mem_cons.1 hq with rfl | hq
  · exact h
  · exact ha q hq
theorem fine_num {z lo : Int} (h : okN z lo maxN) (h0 : 0 ≤ lo) : (Pc.n z.toNat).fine := by
  have h1 := h.1
  have h2 := h.2
  unfold maxN at h2
  show z.toNat ≤ 1099511627776
  omega
theorem fine_num' {z lo hi : Int} (h : okN z lo hi) (h0 : 0 ≤ lo) (h1 : hi ≤ maxN) : (Pc.n z.toNat).fine := fine_num (lo := lo) ⟨h.1, Int.le_trans h.2 h1⟩ h0
theorem fine_attr {c n p lo hi : Int} (hc : (Pc.s c).fine) (h : okN n lo hi) (h0 : 0 ≤ lo) (h1 : hi ≤ maxN) : fineL (attrP c n p) := by
  unfold attrP
  split
  · exact fine_nil
  · exact fine_cons hc (fine_cons (fine_num' h h0 h1) fine_nil)
theorem fine_sty {s : Sty} (h : s.fits) : fineL (styP s) := by
  obtain ⟨⟨h0, h1, h2, h3, h4, h5⟩, h6, h7, h8, h9, h10, h11⟩ := h
  unfold styP
  have f : ∀ c : Int, 33 ≤ c → c ≤ 126 → c ≠ 35 → (c < 48 ∨ 57 < c) → (Pc.s c).fine := fun c a b d e => ⟨a, b, d, e⟩
  exact fine_append (fine_attr (f _ (by decide) (by decide) (by decide) (by decide)) h0 (by decide) (by decide)) (fine_append (fine_attr (f _ (by decide) (by decide) (by decide) (by decide)) h1 (by decide) (by decide))
    (fine_append (fine_attr (f _ (by decide) (by decide) (by decide) (by decide)) h2 (by decide) (by decide)) (fine_append (fine_attr (f _ (by decide) (by decide) (by decide) (by decide)) h3 (by decide) (by decide))
    (fine_append (fine_attr (f _ (by decide) (by decide) (by decide) (by decide)) h4 (by decide) (by decide)) (fine_append (fine_attr (f _ (by decide) (by decide) (by decide) (by decide)) h5 (by decide) (by decide))
    (fine_append (fine_attr (f _ (by decide) (by decide) (by decide) (by decide)) h6 (by decide) (by decide)) (fine_append (fine_attr (f _ (by decide) (by decide) (by decide) (by decide)) h7 (by decide) (by decide))
    (fine_append (fine_attr (f _ (by decide) (by decide) (by decide) (by decide)) h8 (by decide) (by decide)) (fine_append (fine_attr (f _ (by decide) (by decide) (by decide) (by decide)) h9 (by decide) (by decide))
    (fine_append (fine_attr (f _ (by decide) (by decide) (by decide) (by decide)) h10 (by decide) (by decide)) (fine_attr (f _ (by decide) (by decide) (by decide) (by decide)) h11 (by decide) (by decide))))))))))))
theorem fine_words : ∀ (ws : List Int), (∀ n ∈ ws, okN n 1 maxN) → fineL (wordsP ws)
  | [], _ => fine_nil
  | w :: ws, h => fine_cons (show (Pc.b 32).fine from .inl rfl) (fine_cons (fine_num (h w (by simp)) (by decide)) (fine_words ws (fun n hn => h n (by simp [hn]))))
theorem fine_leaf {x : Nd} (h : x.fits) : fineL (leafP x) := by
  have f : ∀ c : Int, 33 ≤ c → c ≤ 126 → c ≠ 35 → (c < 48 ∨ 57 < c) → (Pc.s c).fine := fun c a b d e => ⟨a, b, d, e⟩
  have b32 : (Pc.b 32).fine := .inl rfl
  rcases h with ⟨e, _⟩ | ⟨e, _, e2, e3, _, e5, _⟩ | ⟨e, _, _, _, _, e5, e6, _⟩ | ⟨e, _, _, _, _, e5, e6, e7⟩
  · unfold leafP
    rw [if_neg (by omega), if_neg (by omega), if_neg (by omega), if_neg (by omega)]
    exact fine_nil
  · unfold leafP
    rw [if_pos e]
    exact fine_append (fine_append (fine_cons (f _ (by decide) (by decide) (by decide) (by decide)) (fine_cons (fine_num e2 (by decide)) (fine_cons b32 (fine_cons (fine_num e3 (by decide)) fine_nil)))) (fine_words _ e5)) (fine_cons (f _ (by decide) (by decide) (by decide) (by decide)) fine_nil)
  · unfold leafP
    rw [if_neg (by omega), if_pos e]
    exact fine_cons (f _ (by decide) (by decide) (by decide) (by decide)) (fine_cons (fine_num e5 (by decide)) (fine_cons b32 (fine_cons (fine_num e6 (by decide)) (fine_cons (f _ (by decide) (by decide) (by decide) (by decide)) fine_nil))))
  · unfold leafP
    rw [if_neg (by omega), if_neg (by omega)]
    have hsd : x.side = 1 ∨ x.side = 2 := by have := e7.1; have := e7.2; omega
    rcases hsd with hs | hs
    · rw [if_pos ⟨e, hs⟩]
      exact fine_cons (f _ (by decide) (by decide) (by decide) (by decide)) (fine_cons (f _ (by decide) (by decide) (by decide) (by decide)) (fine_cons (fine_num e5 (by decide)) (fine_cons b32 (fine_cons (fine_num e6 (by decide)) (fine_cons (f _ (by decide) (by decide) (by decide) (by decide)) fine_nil)))))
    · rw [if_neg (by omega), if_pos ⟨e, hs⟩]
      exact fine_cons (f _ (by decide) (by decide) (by decide) (by decide)) (fine_cons (f _ (by decide) (by decide) (by decide) (by decide)) (fine_cons (fine_num e5 (by decide)) (fine_cons b32 (fine_cons (fine_num e6 (by decide)) (fine_cons (f _ (by decide) (by decide) (by decide) (by decide)) fine_nil)))))
theorem fine_can {x : List Nd} (hF : Forest x) : (∀ y ∈ x, y.fits) → ∀ (b : List Pc), fineL b → fineL (canP b x) := by
  induction hF with
  | nil => intro _ b _; exact fine_nil
  | @cons x inner rest hs hk hF1 hF2 ih1 ih2 =>
    intro hfit b hb
    rw [canP_cons b x inner rest hs]
    refine fine_append (fine_append ?_ hb) (ih2 (fun y hy => hfit y (by simp [hy])) b hb)
    have hx := hfit x (by simp)
    split
    · rename_i h1
      have hsf : x.sty.fits := by
        rcases hx with ⟨_, h, _⟩ | ⟨e, _⟩ | ⟨e, _⟩ | ⟨e, _⟩
        · exact h
        · omega
        · omega
        · omega
      have f : ∀ c : Int, 33 ≤ c → c ≤ 126 → c ≠ 35 → (c < 48 ∨ 57 < c) → (Pc.s c).fine := fun c a b d e => ⟨a, b, d, e⟩
      exact fine_append (fine_append (fine_append (fine_cons (f _ (by decide) (by decide) (by decide) (by decide)) fine_nil) (fine_sty hsf)) (ih1 (fun y hy => hfit y (by simp [hy])) [] fine_nil)) (fine_cons (f _ (by decide) (by decide) (by decide) (by decide)) fine_nil)
    · exact fine_leaf hx
/-- a document's canonical text. -/
def canT (x : List Nd) : List Int := textOf (canP [.b 10] x)
/-- s is that text. -/
def IsText (s : ByteArray) (L : List Int) : Prop := L.length = s.size ∧ LiesAt s 0 L
theorem can_back {s : ByteArray} {x : List Nd} (hd : IsDoc x) (hs : IsText s (canT x)) : ReadB s (some x, 0) := can_read hd hs.2 hs.1 (fine_can hd.2 hd.1 _ (fine_cons (.inr rfl) fine_nil)) (canP_parts hd.2 [.b 10] trivial (fun h => h)).1
/-- texts that are the same are read as the same nodes. -/
theorem can_inj {s : ByteArray} {x y : List Nd} (hx : IsDoc x) (hy : IsDoc y) (h1 : IsText s (canT x)) (h2 : IsText s (canT y)) : x = y := by
  have := (can_back hx h1).det (can_back hy h2)
  injection this with h _
  injection h
end Go.Proofs.YtechccoongilcaaDoor
/- A canonical text has no white but one at a time, no comment. Nothing of the program stands here. -/
namespace Go.Proofs.YtechccoongilcaaDoor
open Go
set_option linter.unusedVariables false
set_option linter.unusedSimpArgs false
def whB (c : Int) : Prop := c = 32 ∨ c = 10
def CleanL : List Int → Prop
  | [] => True
  | [x] => x ≠ 9 ∧ x ≠ 35
  | x :: y :: t => (x ≠ 9 ∧ x ≠ 35) ∧ ¬ (whB x ∧ whB y) ∧ CleanL (y :: t)
theorem clean_append : ∀ (a c : List Int), CleanL a → CleanL c → (∀ x y, a.getLast? = some x → c.head? = some y → ¬ (whB x ∧ whB y)) → CleanL (a ++ c)
  | [], c, _, hc, _ => hc
  | [x], [], ha, _, _ => ha
  | [x], y :: c, ha, hc, h => ⟨ha, h x y rfl rfl, hc⟩
  | x :: y :: a, c, ha, hc, h => ⟨ha.1, ha.2.1, clean_append (y :: a) c ha.2.2 hc (fun u v hu hv => h u v (by rw [List.getLast?_cons_cons]; exact hu) hv)⟩
theorem clean_at : ∀ (L : List Int), CleanL L → (∀ (i : Nat) (x : Int), L[i]? = some x → x ≠ 9 ∧ x ≠ 35) ∧ ∀ (i : Nat) (x y : Int), L[i]? = some x → L[i + 1]? = some y → ¬ (whB x ∧ whB y)
  | [], _ => ⟨fun i x h => by simp at h, fun i x y h => by simp at h⟩
  | [z], h => by
    refine ⟨fun i x hx => ?_, fun i x y hx hy => by simp at hy⟩
    cases i with
    | zero => simp at hx; subst hx; exact h
    | succ i => simp at hx
  | z :: w :: t, h => by
    obtain ⟨h1, h2⟩ := clean_at (w :: t) h.2.2
    refine ⟨fun i x hx => ?_, fun i x y hx hy => ?_⟩
    · cases i with
      | zero => simp at hx; subst hx; exact h.1
      | succ i => exact h1 i x (by simpa using hx)
    · cases i with
      | zero => simp at hx hy; subst hx hy; exact h.2.1
      | succ i => exact h2 i x y (by simpa using hx) (by simpa using hy)
def startsB : List Pc → Prop
  | .b _ :: _ => True
  | _ => False
def endsB (ps : List Pc) : Prop := ∃ c, ps.getLast? = some (.b c)
def Solo : List Pc → Prop
  | [] => True
  | [_] => True
  | p :: q :: t => ¬ (startsB [p] ∧ startsB [q]) ∧ Solo (q :: t)
theorem solo_append : ∀ (a c : List Pc), Solo a → Solo c → (endsB a → ¬ startsB c) → Solo (a ++ c)
  | [], c, _, hc, _ => hc
  | [p], [], ha, _, _ => ha
  | [p], q :: c, ha, hc, h => by
    refine ⟨?_, hc⟩
    rintro ⟨h1, h2⟩
    cases p with
    | s _ => exact h1
    | n _ => exact h1
    | b d =>
      refine h ⟨d, rfl⟩ ?_
      cases q with
      | s _ => exact h2
      | n _ => exact h2
      | b _ => exact trivial
  | p :: q :: a, c, ha, hc, h => ⟨ha.1, solo_append (q :: a) c ha.2 hc (fun ⟨d, hd⟩ => h ⟨d, by rw [List.getLast?_cons_cons]; exact hd⟩)⟩
theorem digits_clean : ∀ (L : List Int), (∀ d ∈ L, 48 ≤ d ∧ d ≤ 57) → CleanL L
  | [], _ => trivial
  | [x], h => by have := h x (by simp); exact ⟨by omega, by omega⟩
  | x :: y :: t, h => ⟨by have := h x (by simp); exact ⟨by omega, by omega⟩, fun ⟨h1, _⟩ => by
      have := h x (by simp)
      unfold whB at h1
      omega, digits_clean (y :: t) (fun d hd => h d (by simp at hd ⊢; exact .inr hd))⟩
theorem text_clean : ∀ (ps : List Pc), Solo ps → fineL ps → CleanL (textOf ps)
  | [], _, _ => trivial
  | p :: ps, hs, hf => by
    have hfp := hf p (by simp)
    have hb : CleanL p.bytes := by
      cases p with
      | s c => unfold Pc.fine at hfp; exact ⟨by omega, by omega⟩
      | b c => unfold Pc.fine at hfp; exact ⟨by omega, by omega⟩
      | n z => exact digits_clean _ (digitsL_dig z)
    have hs' : Solo ps := by
      cases ps with
      | nil => exact trivial
      | cons q t => exact hs.2
    refine clean_append p.bytes (textOf ps) hb (text_clean ps hs' (fun q hq => hf q (by simp [hq]))) (fun x y hx hy => ?_)
    rintro ⟨hwx, hwy⟩
    cases ps with
    | nil => simp [textOf] at hy
    | cons q t =>
      have hfq := hf q (by simp)
      have hnot := hs.1
      have hpb : startsB [p] := by
        cases p with
        | b c => exact trivial
        | s c =>
          simp [Pc.bytes] at hx
          subst hx
          unfold Pc.fine at hfp
          unfold whB at hwx
          omega
        | n z =>
          have hm := digitsL_dig z x (List.mem_of_getLast? hx)
          unfold whB at hwx
          omega
      have hqb : startsB [q] := by
        cases q with
        | b c => exact trivial
        | s c =>
          simp [textOf, Pc.bytes] at hy
          subst hy
          unfold Pc.fine at hfq
          unfold whB at hwy
          omega
        | n z =>
          obtain ⟨d, u, hdu⟩ : ∃ d u, digitsL z = d :: u := by
            have := digitsL_len z
            cases h : digitsL z with
            | nil => rw [h] at this; simp at this
            | cons d u => exact ⟨d, u, rfl⟩
          simp [textOf, Pc.bytes, hdu] at hy
          subst hy
          have hm := digitsL_dig z d (by rw [hdu]; simp)
          unfold whB at hwy
          omega
      exact hnot ⟨hpb, hqb⟩
theorem notb_append {a c : List Pc} (ha : ¬ startsB a) (hc : ¬ startsB c) : ¬ startsB (a ++ c) := by
  cases a with
  | nil => exact hc
  | cons p a => cases p with
    | b z => exact absurd trivial ha
    | s d => exact fun h => h
    | n d => exact fun h => h
theorem ends_append {a c : List Pc} {p : Pc} (hp : c.getLast? = some p) (h : ¬ startsB [p]) : ¬ endsB (a ++ c) := by
  rintro ⟨d, hd⟩
  rw [List.getLast?_append, hp] at hd
  simp at hd
  subst hd
  exact h trivial
def SoloN (a : List Pc) : Prop := Solo a ∧ ¬ startsB a
theorem soloN_append {a c : List Pc} (ha : SoloN a) (hc : SoloN c) : SoloN (a ++ c) := ⟨solo_append a c ha.1 hc.1 (fun _ => hc.2), notb_append ha.2 hc.2⟩
theorem soloN_attr (c n p : Int) : SoloN (attrP c n p) := by
  unfold attrP
  split
  · exact ⟨trivial, fun h => h⟩
  · exact ⟨⟨fun h => h.1, trivial⟩, fun h => h⟩
theorem soloN_sty (s : Sty) : SoloN (styP s) := by
  unfold styP
  exact soloN_append (soloN_attr _ _ _) (soloN_append (soloN_attr _ _ _) (soloN_append (soloN_attr _ _ _) (soloN_append (soloN_attr _ _ _) (soloN_append (soloN_attr _ _ _) (soloN_append (soloN_attr _ _ _) (soloN_append (soloN_attr _ _ _) (soloN_append (soloN_attr _ _ _) (soloN_append (soloN_attr _ _ _) (soloN_append (soloN_attr _ _ _) (soloN_append (soloN_attr _ _ _) (soloN_attr _ _ _)))))))))))
theorem solo_words : ∀ (ws : List Int), Solo (wordsP ws)
  | [] => trivial
  | w :: ws => solo_append [.b 32, .n w.toNat] (wordsP ws) ⟨fun h => h.2, trivial⟩ (solo_words ws) (fun ⟨c, hc⟩ => by simp at hc)
theorem soloN_leaf (x : Nd) : SoloN (leafP x) ∧ ¬ endsB (leafP x) := by
  unfold leafP
  split
  · refine ⟨⟨solo_append _ _ (solo_append _ _ ⟨fun h => h.1, ⟨fun h => h.1, ⟨fun h => h.2, trivial⟩⟩⟩ (solo_words _) (fun ⟨c, hc⟩ => by simp at hc)) trivial (fun _ h => h), fun h => h⟩, ends_append (p := .s 41) rfl (fun h => h)⟩
  split
  · exact ⟨⟨⟨fun h => h.1, ⟨fun h => h.1, ⟨fun h => h.2, ⟨fun h => h.1, trivial⟩⟩⟩⟩, fun h => h⟩, fun ⟨c, hc⟩ => by simp at hc⟩
  split
  · exact ⟨⟨⟨fun h => h.1, ⟨fun h => h.1, ⟨fun h => h.1, ⟨fun h => h.2, ⟨fun h => h.1, trivial⟩⟩⟩⟩⟩, fun h => h⟩, fun ⟨c, hc⟩ => by simp at hc⟩
  split
  · exact ⟨⟨⟨fun h => h.1, ⟨fun h => h.1, ⟨fun h => h.1, ⟨fun h => h.2, ⟨fun h => h.1, trivial⟩⟩⟩⟩⟩, fun h => h⟩, fun ⟨c, hc⟩ => by simp at hc⟩
  · exact ⟨⟨trivial, fun h => h⟩, fun ⟨c, hc⟩ => by simp at hc⟩
theorem soloN_can {x : List Nd} (hF : Forest x) : (∀ y ∈ x, y.fits) → ∀ (b : List Pc), (b = [] ∨ b = [.b 10]) → SoloN (canP b x) := by
  induction hF with
  | nil => intro _ b _; exact ⟨trivial, fun h => h⟩
  | @cons x inner rest hs hk hF1 hF2 ih1 ih2 =>
    intro hfit b hb
    rw [canP_cons b x inner rest hs]
    have h2 := ih2 (fun y hy => hfit y (by simp [hy])) b hb
    have hnode : SoloN (if x.kind = 1 then [.s 91] ++ styP x.sty ++ canP [] inner ++ [.s 93] else leafP x) ∧ ¬ endsB (if x.kind = 1 then [.s 91] ++ styP x.sty ++ canP [] inner ++ [.s 93] else leafP x) := by
      split
      · exact ⟨soloN_append (soloN_append (soloN_append ⟨trivial, fun h => h⟩ (soloN_sty _)) (ih1 (fun y hy => hfit y (by simp [hy])) [] (.inl rfl))) ⟨trivial, fun h => h⟩, ends_append (p := .s 93) rfl (fun h => h)⟩
      · exact soloN_leaf x
    have hne : (if x.kind = 1 then [Pc.s 91] ++ styP x.sty ++ canP [] inner ++ [.s 93] else leafP x) ≠ [] := by
      have := head_can (a := canP [] inner) (hfit x (by simp))
      intro e
      rw [e] at this
      exact this
    refine ⟨solo_append _ _ (solo_append _ _ hnode.1.1 ?_ (fun h => absurd h hnode.2)) h2.1 (fun _ => h2.2), ?_⟩
    · rcases hb with rfl | rfl <;> exact trivial
    · rw [List.append_assoc]
      generalize (if x.kind = 1 then [Pc.s 91] ++ styP x.sty ++ canP [] inner ++ [.s 93] else leafP x) = N at hnode hne
      cases N with
      | nil => exact absurd rfl hne
      | cons p N => cases p with
        | b z => exact absurd trivial hnode.1.2
        | s d => exact fun h => h
        | n d => exact fun h => h
theorem can_clean {s : ByteArray} {x : List Nd} (hd : IsDoc x) (hs : IsText s (canT x)) : ∀ i, 1 ≤ i → i < s.size → bAt s i ≠ 9 ∧ bAt s i ≠ 35 ∧ ¬ (bAt s i = 32 ∧ bAt s (i - 1) = 32) ∧ ¬ (bAt s i = 10 ∧ bAt s (i - 1) = 10) := by
  intro i h1 h2
  obtain ⟨c1, c2⟩ := clean_at _ (text_clean (canP [.b 10] x) (soloN_can hd.2 hd.1 _ (.inr rfl)).1 (fine_can hd.2 hd.1 _ (fine_cons (.inr rfl) fine_nil)))
  have hl : (textOf (canP [.b 10] x)).length = s.size := hs.1
  have hx : (textOf (canP [.b 10] x))[i]? = some ((textOf (canP [.b 10] x))[i]'(by omega)) := List.getElem?_eq_getElem _
  have hy : (textOf (canP [.b 10] x))[i - 1]? = some ((textOf (canP [.b 10] x))[i - 1]'(by omega)) := List.getElem?_eq_getElem _
  have e1 := (hs.2 i _ hx).2
  have e2 := (hs.2 (i - 1) _ hy).2
  rw [Nat.zero_add] at e1 e2
  have k1 := c1 i _ hx
  have k2 := c2 (i - 1) _ _ hy (by rw [show i - 1 + 1 = i by omega]; exact hx)
  rw [← e1] at k1
  rw [← e1, ← e2] at k2
  unfold whB at k2
  exact ⟨k1.1, k1.2, fun ⟨p, q⟩ => k2 ⟨.inl q, .inl p⟩, fun ⟨p, q⟩ => k2 ⟨.inr q, .inr p⟩⟩
end Go.Proofs.YtechccoongilcaaDoor
/- The document's answer for package lex: the tokens of a script. -/
namespace Go.Proofs.YtechccoongilcaaDoor
open Go.RowKit
set_option linter.unusedVariables false
set_option linter.unusedSimpArgs false
set_option maxRecDepth 100000 in
set_option maxHeartbeats 4000000 in
theorem reflex_any (s : ByteArray) (w : World) (hs : s.size ≤ 600000) : Calls Tryd.prog 25 #[.string s] w (LexPost w s) := by
  obtain ⟨i0, hi0, hz0, hz1, hz2⟩ := info_parts tok_info
  have HT := Lib.hid (show lexF s (s.size + 1) false 0 [] = lexB s from rfl)
  go_enter Tryd.func25, Tryd.ntmps25
  go_wp2_with fail
  go_loopw [5, 6, 7] (fun v u i wr => ∃ (k f m c' : Nat) (c : Bool) (ci : Int) (A' : Option Addr) (out : List Tok), k ≤ s.size ∧ s.size ≤ k + f ∧ m ≤ k ∧ v = .slice A' m c' ∧ u = .int .i64 ci ∧ (ci == 1) = c ∧ i = .int .i64 k ∧ lexF s f c k out = lexB s ∧ wr.ownsRow w.heap.size 70 4 (.slice A' m c') m (out.flatMap encT) ∧ Below w.heap.size w wr) (fun _ _ i _ => s.size - (intOf i).toNat)
  case atStart => exact ⟨0, s.size + 1, 0, 0, false, 0, none, [], by omega, by omega, by omega, rfl, rfl, rfl, rfl, HT.out, owns_nil _ _ _ _, Below.refl _ _⟩
  case round =>
    obtain ⟨k, f, m, c', c, ci, A', out, hk, hf, hm, rfl, rfl, hci, rfl, ht, hO, hB⟩ := hrel
    have HO := Lib.hid hO
    have HB := Lib.hid hB
    have hsz := hB.size
    by_cases hlt : k < s.size
    · obtain ⟨f', rfl, hf', hop⟩ := lexF_open (c := c) (out := out) hlt hf
      rw [ht] at hop
      have hb0 := bAt_get s k hlt
      obtain ⟨hbd1, hbd2⟩ := bAt_bd s k
      obtain ⟨b, hb⟩ : ∃ b, bAt s k = b := ⟨_, rfl⟩
      rw [hb] at hb0 hop hbd1 hbd2
      obtain ⟨z, hz⟩ : ∃ z, sizeB s k = z := ⟨_, rfl⟩
      have hz4 := sizeB_le s k
      rw [hz] at hz4 hop
      have HZ := Lib.hid hz
      have hk2 : (k : Int) < (s.size : Int) := by omega
      clear ht hO hB
      by_cases hzn : z = 0
      · rw [if_pos hzn] at hop
        subst hzn
        have HR := Lib.hid hop
        clear hop hz hb
        go_wp2_with (go_at_call 44; refine (size_to HZ.out _ (by omega) (by omega)).mono ?_; rintro e w' ⟨rfl, rfl⟩)
        go_ret3
        exact .inr ⟨k, HR.out, rfl, hlt, HB.out⟩
      · rw [if_neg hzn] at hop
        have hin := sizeB_in (s := s) (k := k) (by omega)
        rw [hz] at hin
        have hzz : ((z : Int) == 0) = false := by simp; omega
        have HBk := Lib.hid hb
        clear hz hb
        cases c
        case true =>
          by_cases h10 : b = 10
          all_goals
            simp only [h10, ne_eq, not_true_eq_false, not_false_eq_true, decide_true, decide_false, if_true] at hop
            have HR := Lib.hid hop
            clear hop
            first
              | (have hbb : (b == 10) = true := by simp [h10])
              | (have hbb : (b == 10) = false := by simp [h10])
            go_wp2_with (go_at_call 44; refine (size_to HZ.out _ (by omega) (by omega)).mono ?_; rintro e w' ⟨rfl, rfl⟩)
            go_roundw
            case rel => exact ⟨k + z, f', m, c', _, _, A', out, by omega, by omega, by omega, rfl, rfl, by first | rfl | exact hci, by go_num, HR.out.symm, HO.out, HB.out⟩
            case measure => simp [intOf]; omega
        case false =>
          simp only [Bool.false_eq_true, if_false] at hop
          by_cases h35 : b = 35
          · rw [if_pos h35] at hop
            subst h35
            have HR := Lib.hid hop
            clear hop
            go_wp2_with (go_at_call 44; refine (size_to HZ.out _ (by omega) (by omega)).mono ?_; rintro e w' ⟨rfl, rfl⟩)
            go_roundw
            case rel => exact ⟨k + 1, f', m, c', _, _, A', out, by omega, by omega, by omega, rfl, rfl, rfl, by go_num, HR.out.symm, HO.out, HB.out⟩
            case measure => simp [intOf]; omega
          rw [if_neg h35] at hop
          have hb35 : (b == 35) = false := by simp [h35]
          by_cases hwh : b = 32 ∨ b = 9 ∨ b = 10
          · rw [if_pos hwh] at hop
            have HR := Lib.hid hop
            clear hop h35 hb35
            rcases hwh with rfl | rfl | rfl
            all_goals
              go_wp2_with (go_at_call 44; refine (size_to HZ.out _ (by omega) (by omega)).mono ?_; rintro e w' ⟨rfl, rfl⟩)
              go_roundw
              case rel => exact ⟨k + 1, f', m, c', _, _, A', out, by omega, by omega, by omega, rfl, rfl, hci, by go_num, HR.out.symm, HO.out, HB.out⟩
              case measure => simp [intOf]; omega
          rw [if_neg hwh] at hop
          have hb32 : (b == 32) = false := by simp; omega
          have hb9 : (b == 9) = false := by simp; omega
          have hb10 : (b == 10) = false := by simp; omega
          clear hwh h35
          rcases hdg : digB s k with _ | _
          · rw [hdg] at hop
            simp only [Bool.false_eq_true, if_false] at hop
            have hin48 : inB s k 48 57 = false := hdg
            have HR := Lib.hid hop
            clear hop hdg
            go_wp2_with (first
              | (go_at_call 44; refine (size_to HZ.out _ (by omega) (by omega)).mono ?_; rintro e w' ⟨rfl, rfl⟩)
              | (go_at_call 45; refine (in_any s k _ _ _ (by omega) (by omega)).mono ?_; rintro e w' ⟨rfl, rfl⟩))
            refine (rune_any s k z _ (by omega) hz4 hin (by omega)).mono ?_
            rintro e w2 ⟨rfl, hb2⟩
            obtain ⟨rv, hrv⟩ : ∃ rv, runeB s k z = rv := ⟨_, rfl⟩
            have hR2 := HR.out
            rw [hrv] at hR2 ⊢
            have HR2 := Lib.hid hR2
            have HO2 := Lib.hid (owns_below HO.out hb2)
            have HB2 := Lib.hid (HB.out.trans (hb2.mono hsz))
            have hsz2 := HB2.out.size
            have HC1 := Lib.hid (tok_cells w2 1 rv 0 k 70 w2.heap.size rfl)
            have HO6 := Lib.hid (owns_below HO2.out (w' := w2.alloc (.cells #[.int .i64 1, .int .i32 rv, .int .i64 0, .int .i64 k] 70)) (by go_grown))
            have HB6 := Lib.hid (HB2.out.alloc hsz2 (.cells #[.int .i64 1, .int .i32 rv, .int .i64 0, .int .i64 k] 70))
            clear hb2 hR2 hrv
            go_wp2_with (at_builtin; refine wpList_append_cells _ rfl (.tmp 54) (.tmp 61) _ rfl w.heap.size 70 i0 (.agg #[.int .i64 0, .int .i32 0, .int .i64 0, .int .i64 0]) 4 32 Tryd.underlying34 hi0 hz0 hz1 hz2 rfl (by decide) _ m _ rfl HO6.out _ 1 1 _ rfl HC1.out (tok_cell4 _ _ _ _) (by unfold maxLen; omega) (by omega) (by simp; omega) ?_; intro A6 c6 w6 hown6 hg6; have hb6 : Below w.heap.size _ w6 := (Below.refl _ _).grown hg6 (by simp; omega) (owns_block HO6.out); have HB7 := Lib.hid (HB6.out.trans hb6); have HO7 := Lib.hid hown6; clear hg6 hown6 hb6)
            go_roundw
            case rel => exact ⟨k + z, f', m + 1, c6, false, ci, A6, out ++ [⟨1, rv, 0, k⟩], by omega, by omega, by omega, rfl, rfl, hci, by go_num, HR2.out.symm, by rw [toks_snoc]; exact HO7.out, HB7.out⟩
            case measure => simp [intOf]; omega
          · rw [hdg] at hop
            simp only [if_true] at hop
            have hin48 : inB s k 48 57 = true := hdg
            have hgt := numB_gt hdg
            have h48 : 48 ≤ b ∧ b ≤ 57 := by
              have e := inB_at hlt 48 57
              rw [hin48, HBk.out] at e
              have e2 := e.symm
              simp only [Bool.and_eq_true, decide_eq_true_eq] at e2
              exact e2
            rcases hnb : numB s k with ⟨nv, ne⟩
            rw [hnb] at hop hgt
            simp only at hop hgt
            have HR := Lib.hid hop
            have HNb := Lib.hid (show numF s (s.size + 1) 0 k = (nv, ne) from hnb)
            clear hop hdg hnb
            go_wp2_with (first
              | (go_at_call 44; refine (size_to HZ.out _ (by omega) (by omega)).mono ?_; rintro e w' ⟨rfl, rfl⟩)
              | (go_at_call 45; refine (in_any s k _ _ _ (by omega) (by omega)).mono ?_; rintro e w' ⟨rfl, rfl⟩))
            obtain ⟨wo, rfl⟩ : ∃ wo : World, wo = wr := ⟨_, rfl⟩
            go_loopw [10, 11] (fun v i wr => ∃ (e f2 : Nat) (n : Int), e ≤ s.size ∧ k ≤ e ∧ s.size ≤ e + f2 ∧ v = .int .i64 n ∧ i = .int .i64 e ∧ (0 ≤ n ∧ n ≤ 2199023255552) ∧ numF s f2 n e = (nv, ne) ∧ wr = wo) (fun _ i _ => s.size - (intOf i).toNat)
            case atStart => exact ⟨k, s.size + 1, 0, by omega, by omega, by omega, rfl, rfl, by omega, HNb.out, rfl⟩
            case round =>
              obtain ⟨e, f2, n, he1, he2, he3, rfl, rfl, ⟨hn1, hn2⟩, hnf, rfl⟩ := hrel
              have HNf := Lib.hid hnf
              clear hnf
              rcases hde : digB s e with _ | _
              · have hend := numF_end (f := f2) (n := n) hde
                rw [HNf.out] at hend
                injection hend with q1 q2
                subst q1 q2
                have hin2 : inB s ne 48 57 = false := hde
                by_cases hbad : 1099511627776 < nv ∨ (b = 48 ∧ k + 1 < ne)
                · have hR2 := HR.out
                  rw [if_pos hbad] at hR2
                  have HR2 := Lib.hid hR2
                  have hbi : 1099511627776 < nv ∨ (nv ≤ 1099511627776 ∧ b = 48 ∧ (k : Int) + 1 < (ne : Int)) := by omega
                  clear hR2 hbad hde
                  rcases hbi with hb1 | ⟨hb1, rfl, hb2⟩
                  all_goals
                    go_wp2_with (go_at_call 45; refine (in_any s ne _ _ _ (by omega) (by omega)).mono ?_; rintro e w' ⟨rfl, rfl⟩)
                    go_ret3
                    exact .inr ⟨k, HR2.out, rfl, hlt, HB.out⟩
                · have hR2 := HR.out
                  rw [if_neg hbad] at hR2
                  have HR2 := Lib.hid hR2
                  have hbi : nv ≤ 1099511627776 ∧ (((b == 48) = true ∧ (ne : Int) ≤ (k : Int) + 1) ∨ (b == 48) = false) := by
                    refine ⟨by omega, ?_⟩
                    by_cases q : b = 48
                    · exact .inl ⟨by simp [q], by omega⟩
                    · exact .inr (by simp [q])
                  obtain ⟨hb1, hbi⟩ := hbi
                  have HC1 := Lib.hid (tok_cells wr 2 0 nv k 70 wr.heap.size rfl)
                  have HO6 := Lib.hid (owns_below HO.out (w' := wr.alloc (.cells #[.int .i64 2, .int .i32 0, .int .i64 nv, .int .i64 k] 70)) (by go_grown))
                  have HB6 := Lib.hid (HB.out.alloc hsz (.cells #[.int .i64 2, .int .i32 0, .int .i64 nv, .int .i64 k] 70))
                  clear hR2 hbad hde
                  rcases hbi with ⟨hb2, hb3⟩ | hb2
                  all_goals
                    go_wp2_with (first
                      | (go_at_call 45; refine (in_any s ne _ _ _ (by omega) (by omega)).mono ?_; rintro e w' ⟨rfl, rfl⟩)
                      | (at_builtin; refine wpList_append_cells _ rfl (.tmp 94) (.tmp 98) _ rfl w.heap.size 70 i0 (.agg #[.int .i64 0, .int .i32 0, .int .i64 0, .int .i64 0]) 4 32 Tryd.underlying34 hi0 hz0 hz1 hz2 rfl (by decide) _ m _ rfl HO6.out _ 1 1 _ rfl HC1.out (tok_cell4 _ _ _ _) (by unfold maxLen; omega) (by omega) (by simp; omega) ?_; intro A6 c6 w6 hown6 hg6; have hb6 : Below w.heap.size _ w6 := (Below.refl _ _).grown hg6 (by simp; omega) (owns_block HO6.out); have HB7 := Lib.hid (HB6.out.trans hb6); have HO7 := Lib.hid hown6; clear hg6 hown6 hb6))
                    go_roundw
                    case rel => exact ⟨ne, f', m + 1, c6, false, ci, A6, out ++ [⟨2, 0, nv, k⟩], by omega, by omega, by omega, rfl, rfl, hci, by go_num, HR2.out.symm, by rw [toks_snoc]; exact HO7.out, HB7.out⟩
                    case measure => simp [intOf]; omega
              · have hle := inB_lt hde
                have hin2 : inB s e 48 57 = true := hde
                have hbe0 := bAt_get s e hle
                have h48e : 48 ≤ bAt s e ∧ bAt s e ≤ 57 := by
                  have q := inB_at hle 48 57
                  rw [hin2] at q
                  have q2 := q.symm
                  simp only [Bool.and_eq_true, decide_eq_true_eq] at q2
                  exact q2
                obtain ⟨f3, hf3, hst⟩ := numF_step (n := n) hde he3
                rw [HNf.out] at hst
                have HSt := Lib.hid hst
                have o1 : IntKind.u8.wrap (bAt s e - 48) = bAt s e - 48 := by rw [IntKind.wrap_u8]; omega
                have hle2 : (e : Int) < (s.size : Int) := by omega
                clear hde hst
                go_wp2_with (go_at_call 45; refine (in_any s e _ _ _ (by omega) (by omega)).mono ?_; rintro e w' ⟨rfl, rfl⟩)
                go_roundw
                case rel => exact ⟨e + 1, f3, min (10 * n + (bAt s e - 48)) 2199023255552, by omega, by omega, by omega, rfl, by go_num, by omega, HSt.out.symm, by first | rfl | trivial⟩
                case measure => simp [intOf]; omega
    · have HR := Lib.hid (ht.symm.trans (lexF_end hlt))
      have hR := ownsRow_rows (enc := encT) (zs := out) encT_len (by decide) hO
      have HRo := Lib.hid hR
      have hcap := owns_cap hO
      have hat := owns_at hO
      have hk2 : (s.size : Int) ≤ (k : Int) := by omega
      clear ht hO hB hR
      go_wp2_with fail
      go_ret3
      exact .inl ⟨out, A', m, c', HR.out, rfl, HRo.out, ⟨by omega, hcap, hat⟩, HB.out⟩
end Go.Proofs.YtechccoongilcaaDoor
/- The library's tables of UTF-8: what a row that lists them says of the world; a world that holds them. -/
namespace Go.Proofs.YtechccoongilcaaDoor
open Go.ChangeShapes Go.WideShapes Go.ChangeAt Go.RowKit Go.Lib
set_option linter.unusedVariables false
set_option maxRecDepth 100000
theorem accept_eq : Rows.laid_unicode_utf8_acceptRanges = Lib.acceptData := by kernel_rfl
theorem first_eq : Rows.laid_unicode_utf8_first = Lib.firstData := Go.Pinned.utf8First_eq
theorem u8Types : U8Types Tryd.prog decLays_ren := U8Types.of260 { decLays with }
theorem u8Extra : U8Extra Tryd.prog decLays_ren := ⟨by kernel_rfl, by kernel_rfl, by kernel_rfl, by kernel_rfl, by kernel_rfl, by kernel_rfl, by kernel_rfl⟩
def tabsLaid : List (String × DataW Unit) := [("unicode/utf8.acceptRanges", Rows.laid_unicode_utf8_acceptRanges), ("unicode/utf8.first", Rows.laid_unicode_utf8_first)]
theorem tabs_of_laid {W : World} (h : laidMetH Tryd.prog tabsLaid W) : Tabs W := by
  rw [MakeChecks.laidMetH_plain _ _ _ (by kernel_rfl)] at h
  have h3 := Lib.laidMet.reads h (n := "unicode/utf8.first") (d := Rows.laid_unicode_utf8_first) (.tail _ (.head _))
  have h4 := Lib.laidMet.reads h (n := "unicode/utf8.acceptRanges") (d := Rows.laid_unicode_utf8_acceptRanges) (.head _)
  rw [first_eq] at h3
  rw [accept_eq] at h4
  exact utf8Tabs_of_readsT u8Types u8Extra h3 h4
/-- the settled world, the two tables holding what their initialisers lay. -/
noncomputable def tabsWorld (os : Os) : World :=
  let w0 := World.holding Tryd.prog os ⟨#[], #[], []⟩
  let put (h : Array Obj) (g : Nat) (cs : Array Value) : Array Obj := h.modify g fun
    | .cells _ t frozen => .cells cs t frozen
    | o => o
  let h1 := put w0.heap (decLays_ren.g 3) (Lib.firstTab.map fun z => Value.int .u8 z).toArray
  let h2 := put h1 (decLays_ren.g 4) ((List.range 16).flatMap fun i => [Value.int .u8 (Lib.accLo i), Value.int .u8 (Lib.accHi i)]).toArray
  { w0 with heap := h2 }
theorem tabs_met (os : Os) (args : Array Value) : laidMetH Tryd.prog tabsLaid ((tabsWorld os).forCall (fun _ _ => 0) ⟨#[], args, []⟩).memory := by
  rw [MakeChecks.laidMetH_plain _ _ _ (by kernel_rfl)]
  exact (LaidIn.of_run (l := tabsLaid) [0, 1] 8 (by kernel_rfl) (by kernel_rfl) (by kernel_rfl) (by kernel_rfl)).met
end Go.Proofs.YtechccoongilcaaDoor
/- The program's package lex: whether a text is well-formed. -/
namespace Go.Proofs.YtechccoongilcaaDoor
open Go.RowKit
set_option linter.unusedVariables false
set_option linter.unusedSimpArgs false
def pre3 (t : ByteArray) : Bool := decide (3 ≤ t.size) && (t.extract 0 3).toList == [239, 191, 189]
theorem pre2_any (t : ByteArray) (w : World) (ht : t.size ≤ 600000) : Calls Tryd.prog 72 #[.string t, .string ⟨#[239, 191, 189]⟩] w fun e w' => e = .returned (.bool (pre3 t)) ∧ w = w' := by
  by_cases h : 3 ≤ t.size
  · go_enter Tryd.func72, Tryd.ntmps72
    go_wp2_with fail
    go_ret
    exact ⟨ret_bool (by simp [pre3, h]), rfl⟩
  · go_enter Tryd.func72, Tryd.ntmps72
    go_wp2_with fail
    go_ret
    exact ⟨ret_bool (by simp [pre3, h]), rfl⟩
theorem pre_any {t : ByteArray} {v : Bool} (hv : pre3 t = v) (w : World) (ht : t.size ≤ 600000) : Calls Tryd.prog 50 #[.string t, .string ⟨#[239, 191, 189]⟩] w fun e w' => e = .returned (.bool v) ∧ w = w' := by
  subst hv
  go_enter Tryd.func50, Tryd.ntmps50
  go_wp2_with (go_at_call 72; refine (pre2_any _ _ ht).mono ?_; rintro e w' ⟨rfl, rfl⟩)
  go_ret
  exact ⟨rfl, rfl⟩
theorem pre_yes {s : ByteArray} {k : Nat} (hk : k < s.size) (hz : sizeB s k ≠ 0) (hr : runeB s k (sizeB s k) = 65533) : pre3 (s.extract k s.size) = true := by
  have he := encode_rune hz
  have hin := sizeB_in (s := s) (k := k) (by omega)
  rw [hr] at he
  have hd : Utf8.encode 65533 = ⟨#[239, 191, 189]⟩ := by kernel_rfl
  rw [hd] at he
  have hs := congrArg ByteArray.size he
  rw [ByteArray.size_extract] at hs
  have h3 : sizeB s k = 3 := by
    have : (ByteArray.mk #[239, 191, 189]).size = 3 := rfl
    omega
  rw [h3] at he hin
  have e2 : (s.extract k s.size).extract 0 3 = s.extract k (k + 3) := by
    rw [ByteArray.extract_extract]
    congr 1
    omega
  unfold pre3
  rw [e2, ← he, ByteArray.size_extract, decide_eq_true (by omega), Go.ByteArray.toList_eq]
  rfl
theorem pre3_byte {t : ByteArray} {l : List UInt8} (h3 : l.length ≤ t.size) (hp : (t.extract 0 l.length).data.toList = l) {j : Nat} {u : UInt8} (hu : l[j]? = some u) : bAt t j = (u.toNat : Int) := by
  have hj := (List.getElem?_eq_some_iff.1 hu).1
  rw [← hp, Array.getElem?_toList, ByteArray.data_extract, Array.getElem?_extract] at hu
  unfold bAt
  congr 2
  show t.data[j]! = u
  rw [getElem!_def]
  split at hu
  · rw [Nat.zero_add] at hu; rw [hu]
  · exact absurd hu (by simp)
theorem pre_no {s : ByteArray} {k : Nat} (hk : k < s.size) (hz : sizeB s k = 0) : pre3 (s.extract k s.size) = false := by
  rcases hp : pre3 (s.extract k s.size) with _ | _
  · rfl
  · exfalso
    unfold pre3 at hp
    simp only [Bool.and_eq_true, decide_eq_true_eq, beq_iff_eq] at hp
    obtain ⟨hl, hp⟩ := hp
    rw [Go.ByteArray.toList_eq] at hp
    have b0 := pre3_byte (l := [239, 191, 189]) hl hp (j := 0) rfl
    have b1 := pre3_byte (l := [239, 191, 189]) hl hp (j := 1) rfl
    have b2 := pre3_byte (l := [239, 191, 189]) hl hp (j := 2) rfl
    clear hp
    rw [ByteArray.size_extract] at hl
    have h3 : k + 3 ≤ s.size := by omega
    rw [bAt_extract s k s.size _ (Nat.le_refl _) (by omega)] at b0 b1 b2
    have q0 : bAt s k = 239 := b0
    have q1 : bAt s (k + 1) = 191 := b1
    have q2 : bAt s (k + 1 + 1) = 189 := b2
    have i0 : inB s k 238 239 = true := inB_yes hk (by omega) (by omega)
    have i1 : moreB s (k + 1) 2 = true := more2.2 ⟨inB_yes (by omega) (by omega) (by omega), inB_yes (by omega) (by omega) (by omega)⟩
    have n0 : inB s k 0 127 = false := inB_no (by omega)
    have n1 : inB s k 194 223 = false := inB_no (by omega)
    unfold sizeB at hz
    rw [n0, n1, i0, i1] at hz
    simp at hz
theorem lextext_any (s : ByteArray) (w : World) (hs : s.size ≤ 600000) : Calls Tryd.prog 29 #[.string s] w fun e w' => e = .returned (textV (textB s)) ∧ Below w.heap.size w w' := by
  have HT := Lib.hid (show textF s (s.size + 1) 0 = textB s from rfl)
  go_enter Tryd.func29, Tryd.ntmps29
  go_wp2_with fail
  go_loopw [4, 5] (fun v c wr => ∃ k f : Nat, k ≤ s.size ∧ s.size ≤ k + f ∧ textF s f k = textB s ∧ wr = w.iter s k) (fun _ _ wr => s.size - wr.iterPos w.heap.size)
  case atStart => exact ⟨0, s.size + 1, by omega, by omega, HT.out, rfl⟩
  case round =>
    obtain ⟨k, f, hk, hf, ht, rfl⟩ := hrel
    have HT2 := Lib.hid ht
    clear ht
    by_cases hlt : k < s.size
    · have hnx := fun ty => run_next_any (P := Tryd.prog) w s k ty hlt
      have hds := decode_size s k hlt
      have hin := sizeB_in (s := s) (k := k)
      have h2 : (k : Int) < (s.size : Int) := by omega
      obtain ⟨z, hz⟩ : ∃ z, sizeB s k = z := ⟨_, rfl⟩
      have hsz : (s.extract k s.size).size ≤ 600000 := by rw [ByteArray.size_extract]; omega
      by_cases hz0 : z = 0
      · subst hz0
        have HR := Lib.hid ((HT2.out.symm.trans (textF_bad hlt hf hz)))
        have HP := Lib.hid (pre_no hlt hz)
        have hW := Below.alloc (Below.refl w.heap.size w) (Nat.le_refl _) (.stringIter s (k + 1))
        rw [hds.1 hz] at hnx
        clear hds hin hz
        go_wp2_with (go_at_call 50; refine (pre_any HP.out _ hsz).mono ?_; rintro e w' ⟨rfl, rfl⟩)
        go_ret2
        exact ⟨by rw [HR.out]; rfl, hW⟩
      · obtain ⟨hd, hp⟩ := hds.2 (by omega)
        obtain ⟨f', hf', hst⟩ := textF_step hlt hf (by omega)
        have hin2 := hin (by omega)
        have HY := Lib.hid (pre_yes hlt (show sizeB s k ≠ 0 by omega))
        rw [hd] at hnx
        rw [hz] at hin2 hf' hst hp
        obtain ⟨c, hc⟩ : ∃ c, runeB s k (sizeB s k) = c := ⟨_, rfl⟩
        rw [hc] at hnx HY
        rw [hz] at hc hnx
        rw [hc] at hp
        simp only [Int.toNat_of_nonneg hp] at hnx
        have HSt := Lib.hid (hst.symm.trans HT2.out)
        clear hds hin hz hst hd hc
        by_cases h65 : c = 65533
        · have HP := Lib.hid (HY.out h65)
          subst h65
          go_wp2_with (go_at_call 50; refine (pre_any HP.out _ hsz).mono ?_; rintro e w' ⟨rfl, rfl⟩)
          go_roundw
          case rel => exact ⟨k + z, f', by omega, by omega, HSt.out, rfl⟩
          case measure => simp; omega
        · have h6 : (c == 65533) = false := by simp [h65]
          go_wp2_with fail
          go_roundw
          case rel => exact ⟨k + z, f', by omega, by omega, HSt.out, rfl⟩
          case measure => simp; omega
    · have hnx := fun ty => run_next_end (P := Tryd.prog) w s k ty hlt
      have HR := Lib.hid (HT2.out.symm.trans (textF_end hlt))
      have hW := Below.alloc (Below.refl w.heap.size w) (Nat.le_refl _) (.stringIter s k)
      go_wp2_with fail
      go_ret2
      exact ⟨by rw [HR.out]; rfl, hW⟩
end Go.Proofs.YtechccoongilcaaDoor
/- The program's package lex: the iterator over the tokens of a script, which ranges over the pieces. -/
namespace Go.Proofs.YtechccoongilcaaDoor
open Go.RowKit Go.Shelf
set_option linter.unusedVariables false
set_option linter.unusedSimpArgs false
attribute [local go_sem] Oper.semAt_some
theorem grown_of_below {W W' : World} (h : Below W.heap.size W W') : W.grownBy W' none := ⟨h.os, h.tape, h.output, h.size, fun k hk _ => h.block k hk⟩
theorem own_below {β : Type} {B : Nat} {I : β → World → Prop} (h : OwnFrom B I) {s : β} {W W' : World} (hs : I s W) (hb : Below W.heap.size W W') : I s W' := h s W W' none hs (grown_of_below hb) (fun r e => by cases e)
theorem keepFrom_below {B : Nat} {W W' : World} (h : Below W.heap.size W W') : KeepsFrom B W W' := ⟨h.size, fun k o _ hk _ => (h.block k (Array.getElem?_eq_some_iff.1 hk).1).trans hk⟩
theorem keepB_below {b : Nat} {W W' : World} (h : Below W.heap.size W W') : KeepB b W W' :=
  ⟨⟨h.size, fun k o hk _ => (h.block k (Array.getElem?_eq_some_iff.1 hk).1).trans hk⟩, fun o hk _ => (h.block b (Array.getElem?_eq_some_iff.1 hk).1).trans hk⟩
theorem KeepS.keepB {n₀ n₁ b : Nat} {W W' : World} {s : Value} {t : TypeId} (h : KeepS n₀ n₁ W W') (hn : n₁ ≤ b) (hb : W.heap[b]? = some (.cells #[s] t)) : KeepB b W W' :=
  ⟨⟨h.1.size, fun k o hk ho => h.2 k o hk (.inl (Obj.not_cells_of_walk ho))⟩, fun o hk _ => by rw [hb] at hk; cases hk; exact h.2 b _ hb (.inr ⟨hn, rfl⟩)⟩
theorem keepFrom_up {B B' : Nat} {W W' : World} (h : KeepsFrom B W W') (hB : B ≤ B') : KeepsFrom B' W W' := ⟨h.size, fun k o hk => h.same k o (by omega)⟩
theorem room_none {F : Fence} (hd : F.depth = none) (k : Nat) : F.room k := fun d h => by rw [hd] at h; cases h
theorem round_depth {m m' : Nat} {P : Program} {l : Nat} {f : FuncId} {tmps : Array Value} {assign body : Code} {w : World} {R : Ending → World → Prop}
    (h : RoundIn Fence.wide m P l f tmps assign body w R) : RoundIn Fence.wide m' P l f tmps assign body w R := ⟨h.1, fun c cs _ => h.2 c cs (room_none rfl _)⟩
theorem round_inRound {m : Nat} {P : Program} {l l' : Nat} {f : FuncId} {tmps : Array Value} {assign body : Code} {w : World} {R : Ending → World → Prop}
    (h : RoundIn Fence.wide m P l f tmps assign body w R) : RoundIn (Fence.wide.inRound l') m P l f tmps assign body w R := h
def encK (x : Tok × Bool) : Array Value := #[.agg #[.int .i64 x.1.kind, .int .i32 x.1.sign, .int .i64 x.1.n, .int .i64 x.1.at_], .bool x.2]
theorem toksP_snoc (s : ByteArray) (ps : List (Nat × Nat)) (p : Nat × Nat) : toksP s (ps ++ [p]) = toksP s ps ++ (pieceTok s p).toList := by
  unfold toksP
  rw [List.filterMap_append]
  rcases h : pieceTok s p with _ | x <;> simp [h]
theorem tokens_in (s : ByteArray) (w : World) : Calls Tryd.prog 30 #[.string s] w fun e w' => e = .returned (.func (.func 51) #[] #[.pointer (some ⟨w.heap.size, 0, none⟩)]) ∧ w' = w.alloc (.cells #[.string s] 9) := by
  go_enter Tryd.func30, Tryd.ntmps30
  go_wp2
  go_ret
  exact ⟨rfl, rfl⟩
theorem noth_to {t : ByteArray} {v : Bool} (hv : nothingB t = v) (w : World) (ht : t.size ≤ 600000) : Calls Tryd.prog 53 #[.string t] w fun e w' => e = .returned (.bool v) ∧ w = w' := by
  subst hv; exact noth_any t w ht
theorem token_to {t : ByteArray} {k : Nat} {a b c d : Int} {v : Bool} (hv : tokR t k = (⟨a, b, c, d⟩, v)) (w : World) (hT : Tabs w) (h1 : 0 < t.size) (hz : sizeB t 0 ≠ 0) (ht : t.size ≤ 600000) (hk : k ≤ 600000)
    (hd : digitC (runeB t 0 (sizeB t 0)) = true → ∀ i, i < t.size → digB t i = true) : Calls Tryd.prog 54 #[.int .i64 k, .string t] w fun e w' => e = .returned (.tuple #[.agg #[.int .i64 a, .int .i32 b, .int .i64 c, .int .i64 d], .bool v]) ∧ Below w.heap.size w w' := by
  have h := token_any t k w hT h1 hz ht hk hd
  rw [hv] at h
  exact h
set_option maxRecDepth 100000 in
set_option maxHeartbeats 4000000 in
theorem tokens1_in (n l b n₀ n₁ : Nat) (hn : 3 ≤ n) (s : ByteArray) (hs : s.size ≤ 600000) (hw : textB s = none) (J Jx : List (Tok × Bool) → World → Prop) (W : World) (hJ : OwnFrom W.heap.size J) (hJx : OwnFrom W.heap.size Jx)
    (hl : l < W.heap.size) (h01 : n₀ ≤ n₁) (h1b : n₁ ≤ b) (hT : Tabs W) (ht3 : decLays_ren.g 3 < n₀) (ht4 : decLays_ren.g 4 < n₀)
    (hY : ∀ pre x W1, J pre W1 → pre.length < s.size + 2 → YieldAt Fence.wide (n - 1) Tryd.prog l (encK x) W1 fun e W' =>
      (e = .returned (.bool true) ∧ J (pre ++ [x]) W' ∧ KeepS n₀ n₁ W1 W') ∨ (e = .returned (.bool false) ∧ Jx (pre ++ [x]) W' ∧ KeepsFrom (l + 1) W1 W'))
    (hb : W.heap[b]? = some (.cells #[.string s] 9)) (h0 : J [] W) :
    CallsIn Fence.wide n Tryd.prog 51 #[.func (.yield l) #[] #[], .pointer (some ⟨b, 0, none⟩)] W fun e W' => (∃ v, e = .returned v) ∧
      ((∃ xs : List (Tok × Bool), xs = toksP s (piecesB s) ∧ J xs W') ∨ (∃ pre : List (Tok × Bool), pre <+: toksP s (piecesB s) ∧ Jx pre W')) := by
  have h1 : 1 ≤ n := by omega
  have HY := Lib.hid hY
  clear hY
  have hbl : b < W.heap.size := (Array.getElem?_eq_some_iff.1 hb).1
  refine callsIn_of_wp_marks Tryd.func51 rfl trivial ?_ rfl
  simp only [Tryd.ntmps51, List.size_toArray, List.length_cons, List.length_nil, Nat.reduceAdd, Nat.reduceSub, Array.replicate_succ, Array.replicate_zero, List.push_toArray, List.append_toArray, List.nil_append, List.cons_append]
  have hc : W.cell? ⟨b, 0, none⟩ = some (.string s) := by simp [World.cell?, hb]
  gi_wp2_with (refine ⟨trivial, ?_⟩; gi_at_call 52; refine (callsIn_wide.2 (pieces_in _ _)).mono ?_; rintro e w' ⟨rfl, rfl⟩)
  skip
  obtain ⟨y, hy⟩ : ∃ y, W.heap.size = y := ⟨_, rfl⟩
  obtain ⟨W0, hW0⟩ : ∃ W0, (W.alloc (.cells #[.func (.yield l) #[] #[]] 99)).alloc (.cells #[.string s] 9) = W0 := ⟨_, rfl⟩
  have hs0 : W0.heap.size = y + 2 := by rw [← hW0]; simp; omega
  have hB0 : Below W.heap.size W W0 := by rw [← hW0]; exact ((Below.refl _ W).alloc (Nat.le_refl _) _).alloc (by simp) _
  have hP0 : W0.heap[y + 1]? = some (.cells #[.string s] 9) := by
    rw [← hW0, ← hy]; have := World.alloc_heap_new (W.alloc (.cells #[.func (.yield l) #[] #[]] 99)) (.cells #[.string s] 9); rwa [World.size_alloc] at this
  have hY0 : W0.heap[y]? = some (.cells #[.func (.yield l) #[] #[]] 99) := by
    rw [← hW0, ← hy]; exact (Below.heap_alloc _ _ _ (by simp)).trans (World.alloc_heap_new W _)
  rw [hW0, hy]
  clear hW0 hc
  refine wpIn_rangeFunc_ownG (F := Fence.wide) rfl h1 (gf := 73) (lb := #[.pointer (some ⟨y + 1, 0, none⟩)]) ?hg trivial (enters_of Tryd.func73 (by kernel_rfl) rfl)
    (pieces_stops (n - 1) (y + 1) s hs hw W0 hP0) (fun h k => KeepB.trans h k) (fun W l o o' h1 h2 h3 h4 => KeepB.putObj W l o o' h1 h2 h3 h4) (Below.refl _ _) ?hps
    (fun pre W' => J (toksP s (pre.map (·.1))) W' ∧ (W'.heap[y]? = some (.cells #[.func (.yield l) #[] #[]] 99) ∧ (W'.heap[y + 1]? = some (.cells #[.string s] 9) ∧ Below n₀ W W')))
    (fun c pre W' => c = .ret ∧ Jx (toksP s (pre.map (·.1))) W') ?hI ?hIx ?h0
    (fun x => { tmps := #[.func (.yield l) #[] #[], .pointer (some ⟨b, 0, none⟩), .pointer (some ⟨y, 0, none⟩), .int .i64 (x.1.1 : Int), .string (s.extract x.1.1 x.1.2), undef, undef, .string s, .func (.func 73) #[] #[.pointer (some ⟨y + 1, 0, none⟩)], .int .i64 (x.1.1 : Int), .string (s.extract x.1.1 x.1.2), undef, undef, undef, undef, undef, undef, undef, undef, undef, undef, undef, undef, undef], defers := [] }) ?assign ?body ?done ?stop
  case hg => rfl
  case hps => exact fun _ => rfl
  case hI =>
    refine OwnFrom.and (fun pre => ?_) (OwnFrom.and (ownFrom_block (by omega) _) (OwnFrom.and (ownFrom_block (by omega) _) (ownFrom_below (by omega) (by omega))))
    exact fun W1 W2 row h hg hr => (OwnFrom.up hJ (by omega)) _ W1 W2 row h hg hr
  case hIx =>
    intro c pre W1 W2 row h hg hr
    exact ⟨h.1, (OwnFrom.up hJx (by omega)) _ W1 W2 row h.2 hg hr⟩
  case h0 => exact ⟨own_below hJ h0 hB0, hY0, hP0, hB0.mono (by omega)⟩
  case assign =>
    intro l2 x W1 K hK
    simp only [encP]
    gi_wp2
    exact hK
  case body =>
    rintro l2 pre x W1 ⟨hj, hyb, hpb, hbl0⟩ hlen
    have hd : 1 ≤ n - 1 - 1 := by omega
    have hsn := toksP_snoc s (pre.map (·.1)) x.1
    obtain ⟨o1, o2, o3⟩ := x.2
    unfold pieceTok at hsn
    obtain ⟨t, ht⟩ : ∃ t, s.extract x.1.1 x.1.2 = t := ⟨_, rfl⟩
    obtain ⟨p, hp⟩ : ∃ p, x.1.1 = p := ⟨_, rfl⟩
    have hts : t.size ≤ 600000 := by rw [← ht, ByteArray.size_extract]; omega
    have hp1 : p ≤ 600000 := by omega
    rw [ht] at hsn o3 ⊢
    rw [hp] at hsn ⊢
    clear ht hp o1 o2
    rcases hnb : nothingB t with _ | _
    · rw [hnb] at hsn
      simp only [Bool.false_eq_true, if_false, Option.toList_some] at hsn
      obtain ⟨q1, q2, q3⟩ := o3 hnb
      have hT1 : Tabs W1 := hT.belowB hbl0 ht3 ht4
      rcases htr : tokR t p with ⟨⟨ka, kb, kc, kd⟩, kv⟩
      rw [htr] at hsn
      have HC := Lib.hid (token_to (w := W1) htr hT1 q1 q2 hts (by omega) q3)
      have HN := Lib.hid hnb
      have HS := Lib.hid hsn
      clear htr hnb hsn q3 q2 o3
      gi_wp2_with (first
        | (refine ⟨trivial, ?_⟩; gi_at_call 53; refine (CallsIn.inRound l2 (callsIn_wide.2 (noth_to HN.out _ hts))).mono ?_; rintro e w' ⟨rfl, rfl⟩)
        | (refine ⟨trivial, ?_⟩; gi_at_call 54; refine (CallsIn.inRound l2 (callsIn_wide.2 HC.out)).mono ?_; rintro e W2 ⟨rfl, hb2⟩
           have hyl : y < W1.heap.size := (Array.getElem?_eq_some_iff.1 hyb).1
           have hbA : Below W1.heap.size W1 (W2.alloc (.cells #[.int .i64 ka, .int .i32 kb, .int .i64 kc, .int .i64 kd] 70)) := hb2.alloc hb2.size _
           have hyA := (hbA.block y hyl).trans hyb
           have hcA : (W2.alloc (.cells #[.int .i64 ka, .int .i32 kb, .int .i64 kc, .int .i64 kd] 70)).cell? ⟨y, 0, none⟩ = some (.func (.yield l) #[] #[]) := by simp [World.cell?, hyA]
           have hjA := own_below hJ hj hbA
           have hlA : (toksP s (pre.map (·.1))).length < s.size + 2 := by
             have h5 := List.length_filterMap_le (pieceTok s) (pre.map (·.1))
             rw [List.length_map] at h5
             exact Nat.lt_of_le_of_lt h5 hlen
           obtain ⟨fn, tmps, assign, body, hyl2, hR⟩ := HY.out _ (⟨ka, kb, kc, kd⟩, kv) _ hjA hlA
           dsimp only [encK] at hyl2))
      refine (round_inRound (round_depth hR)).mono ?_
      have hyP := (hbA.block (y + 1) (Array.getElem?_eq_some_iff.1 hpb).1).trans hpb
      rintro e W4 (⟨rfl, hj4, hk4⟩ | ⟨rfl, hx4, hk4⟩)
      · gi_wp2
        exact ⟨(keepFrom_below hbA).trans hk4.from, (keepB_below hbA).trans (hk4.keepB (by omega) hyP), by rw [List.map_append, List.map_singleton, HS.out]; exact hj4,
          hk4.2 y _ hyA (.inr ⟨by omega, rfl⟩), hk4.2 (y + 1) _ hyP (.inr ⟨by omega, rfl⟩), (hbl0.trans (hbA.mono (by have := hbl0.size; omega))).trans hk4.1⟩
      · gi_wp2
        exact ⟨(keepFrom_below hbA).trans (keepFrom_up hk4 (by omega)), rfl, by rw [List.map_append, List.map_singleton, HS.out]; exact hx4⟩
    · rw [hnb] at hsn
      simp only [if_true, Option.toList_none, List.append_nil] at hsn
      gi_wp2_with (refine ⟨trivial, ?_⟩; gi_at_call 53; refine (CallsIn.inRound l2 (callsIn_wide.2 (noth_to hnb _ hts))).mono ?_; rintro e w' ⟨rfl, rfl⟩)
      exact ⟨KeepsFrom.refl _ _, keepB_below (Below.refl _ _), by rw [List.map_append, List.map_singleton, hsn]; exact hj, hyb, hpb, hbl0⟩
  case done =>
    rintro D ys W1 hD hS ⟨hj, _⟩ hK
    gi_wp2
    refine ⟨by simp, .inl ⟨_, _, rfl, run_takeDeferred hK, ?_⟩⟩
    refine ⟨_, results_none rfl _ _ _, ⟨_, rfl⟩, .inl ⟨_, rfl, ?_⟩⟩
    rw [← hS]
    exact OwnFrom.putObj hJ _ hj (by omega) hK rfl
  case stop =>
    rintro D c pre W1 hD hS ⟨rfl, hx⟩ hK
    gi_wp2
    refine ⟨by simp, .inl ⟨_, _, rfl, run_takeDeferred hK, ?_⟩⟩
    refine ⟨_, results_none rfl _ _ _, ⟨_, rfl⟩, .inr ⟨_, ?_, OwnFrom.putObj hJx _ hx (by omega) hK rfl⟩⟩
    obtain ⟨r, hr⟩ := hS
    exact ⟨toksP s r, by unfold toksP; rw [← List.filterMap_append, hr]⟩
end Go.Proofs.YtechccoongilcaaDoor
/- Nodes in memory: what rows and blocks of them are. (Of no function.) -/
namespace Go.Proofs.YtechccoongilcaaDoor
open Go.RowKit
set_option linter.unusedVariables false
set_option linter.unusedSimpArgs false
def zeroM (kind side : Int) : NdM := ⟨kind, 1, .none, 0, 0, none, 0, 0, side, 0, 0⟩
theorem int_info5 : (Tryd.prog.info? 3).map (fun i => (i.zero, i.size, i.bytes)) = some (some (.int .i64 0), 1, 8) := by kernel_rfl
theorem node_info5 : (Tryd.prog.info? 50).map (fun i => (i.zero, i.size, i.bytes)) = some (some (.agg #[.int .i64 0, .int .i64 0, .int .i64 0, .int .i64 0, .int .i64 0, .int .i64 0, .int .i64 0, .int .i64 0, .int .i64 0, .int .i64 0, .int .i64 0, .int .i64 0, .int .i64 0, .int .i64 0, .int .i64 0, .int .i64 0, .slice none 0 0, .int .i64 0, .int .i64 0, .int .i64 0]), 20, 176) := by kernel_rfl
def cellNat (w : World) (a : Addr) : Nat := match w.cell? a with
  | some (.int _ z) => z.toNat
  | _ => 0
theorem blk_not_row {w : World} {T : Nat} {t e : TypeId} {vs : List Value} {base size n : Nat} {v : Value} {xs : List Value} (h : Blk w T t vs) (hne : t ≠ e) (ho : w.ownsRow base e size v n xs) : ∀ k, v.ownBlock = some k → k ≠ T := by
  intro k hk e'
  subst e'
  rcases ho.2 with ⟨q, _⟩ | ⟨g, cap, cur, q, _, q3, _⟩
  · rw [q] at hk; cases hk
  · rw [q] at hk
    injection hk with hk
    rw [show k = g from hk.symm] at h
    rw [show w.heap[g]? = _ from h] at q3
    injection q3 with q3
    injection q3 with _ q3 _
    exact hne q3
theorem owns_one {w : World} {e : TypeId} {size base : Nat} (vs : List Value) (hl : vs.length = size) (h0 : 0 < size) (hb : base ≤ w.heap.size) (h1 : ∀ u ∈ vs, u.oneCell' = true) (n : Nat) (hn : n = w.heap.size) (cs : Array Value) (hc : cs = vs.toArray) : (w.alloc (.cells cs e)).ownsRow base e size (.slice (some ⟨n, 0, none⟩) 1 1) 1 vs := by
  subst hn hc
  exact ⟨by omega, .inr ⟨w.heap.size, 1, vs.toArray, rfl, hb, World.alloc_heap_new w _, by decide, by decide, by simp [hl], by rw [Nat.one_mul, ← hl]; simp⟩⟩
theorem yields_row {P : Program} {a : Act} {o : Oper} {S : World → Prop} (t : TypeId) (x : Operand) (ho : o.op = .load t x) (g : Nat) (hx : a.eval x = .pointer (some ⟨g, 0, none⟩)) (te : TypeId) (cs : Array Value) (d : TypeDesc)
    (hS : ∀ w, S w → w.heap[g]? = some (.cells cs te (0, 0))) (hu : P.underlying t = some d) (hd : (match d with | .struct _ | .array _ _ => true | _ => false) = true) (hi : (P.info? t).map (·.size) = some cs.size) :
    ∀ w, S w → (execOp a.eval o).run P w = .ok (.value (.agg cs)) w := fun w hw => by
  have hr := run_loadVar_row (P := P) w g te t cs (0, 0) d (hS w hw) hu hd hi
  unfold execOp
  simp only [ho, hx, Instr.loadAt, Instr.sureAddr, Sem.run_bind, Sem.run_pure, Result.andThen_ok, hr]
end Go.Proofs.YtechccoongilcaaDoor
/- The document's answers for package read: the letter of an attribute. -/
namespace Go.Proofs.YtechccoongilcaaDoor
open Go.RowKit
set_option linter.unusedVariables false
set_option linter.unusedSimpArgs false
def lettersZ : ByteArray := ⟨#[109, 110, 112, 113, 105, 111, 119, 104, 66, 65, 73, 99]⟩
def bytesI (t : ByteArray) : List Int := (List.range t.size).map (bAt t)
theorem mem_bytesI {t : ByteArray} {c : Int} : c ∈ bytesI t ↔ ∃ j, j < t.size ∧ bAt t j = c := by unfold bytesI; simp
theorem letters_at : ∀ k, k < 12 → bAt lettersZ k ∈ lettersB := by decide +kernel
theorem letters_all : ∀ c ∈ lettersB, ∃ k, k < 12 ∧ bAt lettersZ k = c := by decide +kernel
theorem letterB_found {l : List Tok} {i : Nat} {told : List Int} {c : Int} (hc : c ∈ lettersB) (h : sgB l i c = true) : letterB l i told = if c ∈ told then 0 else c := by
  have hf : lettersB.find? (sgB l i) = some c := by
    rcases hq : lettersB.find? (sgB l i) with _ | d
    · have := List.find?_eq_none.1 hq c hc
      exact absurd h this
    · have := List.find?_some hq
      by_cases e : d = c
      · rw [e]
      · exact (sg_clash this h e).elim
  unfold letterB
  rw [hf]
theorem letterB_none {l : List Tok} {i : Nat} {told : List Int} (h : ∀ c ∈ lettersB, sgB l i c = false) : letterB l i told = 0 := by
  have hf : lettersB.find? (sgB l i) = none := List.find?_eq_none.2 (fun c hc => by rw [h c hc]; simp)
  unfold letterB
  rw [hf]
theorem rletters_to {z : ByteArray} (hz : lettersZ = z) (w : World) : Calls Tryd.prog 92 #[] w fun e w' => e = .returned (.string z) ∧ w = w' := by
  subst hz; exact rletters_any w
theorem rsign_to {toks : List Tok} {A : Option Addr} {n c' : Nat} {i : Nat} {c : Int} {v : Bool} (hv : sgB toks i c = v) (w : World) (hR : Rows 4 encT w A n toks) (hi : i ≤ 10000000) : Calls Tryd.prog 47 #[.slice A n c', .int .i64 i, .int .i32 c] w fun e w' => e = .returned (.bool v) ∧ w = w' := by
  subst hv; exact rsign_any toks A n c' i c w hR hi
theorem rletter_any (toks : List Tok) (A : Option Addr) (n c' : Nat) (i : Nat) (told : ByteArray) (w : World) (hR : Rows 4 encT w A n toks) (hi : i ≤ 1000000) (ht : told.size ≤ 2000000) :
    Calls Tryd.prog 82 #[.slice A n c', .int .i64 i, .string told] w fun e w' => e = .returned (.int .u8 (letterB toks i (bytesI told))) ∧ Below w.heap.size w w' := by
  have HR := Lib.hid hR
  clear hR
  obtain ⟨z, hz⟩ : ∃ z, lettersZ = z := ⟨_, rfl⟩
  have hzs : z.size = 12 := by rw [← hz]; rfl
  have HZ := Lib.hid hz
  have HL := Lib.hid (show ∀ k, k < 12 → bAt z k ∈ lettersB from hz ▸ letters_at)
  have HA := Lib.hid (show ∀ c ∈ lettersB, ∃ k, k < 12 ∧ bAt z k = c from hz ▸ letters_all)
  clear hz
  go_enter Tryd.func82, Tryd.ntmps82
  go_wp2_with (go_at_call 92; refine (rletters_to HZ.out _).mono ?_; rintro e w' ⟨rfl, rfl⟩)
  go_loopw [8, 9] (fun v u wr => ∃ k : Nat, k ≤ 12 ∧ v = .int .i64 k ∧ (∀ j, j < k → sgB toks i (bAt z j) = false) ∧ wr = w) (fun v _ _ => 12 - (intOf v).toNat)
  case atStart => exact ⟨0, by omega, rfl, fun j hj => by omega, rfl⟩
  case round =>
    obtain ⟨k, hk, rfl, hno, rfl⟩ := hrel
    have HN := Lib.hid hno
    clear hno
    by_cases hlt : k < 12
    · have hkz : k < z.size := by omega
      have hk2 : (k : Int) < (z.size : Int) := by omega
      have hb0 := bAt_get z k hkz
      have hbd := bAt_bd z k
      obtain ⟨c, hc⟩ : ∃ c, bAt z k = c := ⟨_, rfl⟩
      rw [hc] at hb0 hbd
      have HC := Lib.hid hc
      have o1 : IntKind.i32.wrap c = c := by rw [IntKind.wrap_i32]; omega
      clear hc
      rcases hs : sgB toks i c with _ | _
      · have HS := Lib.hid hs
        clear hs
        go_wp2_with (go_at_call 47; refine (rsign_to HS.out _ HR.out (by omega)).mono ?_; rintro e w' ⟨rfl, rfl⟩)
        go_roundw
        case rel => exact ⟨k + 1, by omega, by go_num, fun j hj => by
          by_cases e : j = k
          · subst e; rw [HC.out]; exact HS.out
          · exact HN.out j (by omega), by first | rfl | trivial⟩
        case measure => simp [intOf]; omega
      · have HS := Lib.hid hs
        have hcl : c ∈ lettersB := by rw [← HC.out]; exact HL.out k hlt
        have hv := letterB_found (told := bytesI told) hcl hs
        have HV := Lib.hid hv
        clear hs hv
        go_wp2_with (go_at_call 47; refine (rsign_to HS.out _ HR.out (by omega)).mono ?_; rintro e w' ⟨rfl, rfl⟩)
        obtain ⟨wo, rfl⟩ : ∃ wo : World, wo = wr := ⟨_, rfl⟩
        go_loopw [9] (fun u wr => ∃ k2 m : Nat, k2 ≤ told.size ∧ u = .int .i64 k2 ∧ (∀ j, j < k2 → bAt told j ≠ c) ∧ wr = wo.drewN m) (fun u _ => told.size - (intOf u).toNat)
        case atStart => exact ⟨0, 0, by omega, rfl, fun j hj => by omega, rfl⟩
        case round =>
          obtain ⟨k2, m, hk2', rfl, hno, rfl⟩ := hrel
          have HN2 := Lib.hid hno
          clear hno
          by_cases hlt2 : k2 < told.size
          · have hd0 := bAt_get told k2 hlt2
            have hk3 : (k2 : Int) < (told.size : Int) := by omega
            obtain ⟨d, hd⟩ : ∃ d, bAt told k2 = d := ⟨_, rfl⟩
            rw [hd] at hd0
            have HD := Lib.hid hd
            clear hd
            by_cases hdc : d = c
            · have HR0 := Lib.hid (show letterB toks i (bytesI told) = 0 by rw [HV.out, if_pos (mem_bytesI.2 ⟨k2, hlt2, by rw [HD.out, hdc]⟩)])
              subst hdc
              go_wp2_with fail
              go_quiet (fail)
              go_wp2_with fail
              go_ret
              exact ⟨by rw [HR0.out]; rfl, below_drewN (below_drewN (Below.refl _ _) _) _⟩
            · have hdc2 : (d == c) = false := by simp [hdc]
              go_wp2_with fail
              go_quiet (fail)
              go_wp2_with fail
              go_roundw
              case rel => exact ⟨k2 + 1, _, by omega, by go_num, fun j hj => by
                by_cases e : j = k2
                · subst e; rw [HD.out]; exact hdc
                · exact HN2.out j (by omega), rfl⟩
              case measure => simp [intOf]; omega
          · have HR0 := Lib.hid (show letterB toks i (bytesI told) = c by rw [HV.out, if_neg (by rw [mem_bytesI]; rintro ⟨j, hj, e⟩; exact HN2.out j (by omega) e)])
            have hk3 : (told.size : Int) ≤ (k2 : Int) := by omega
            go_wp2_with fail
            go_ret
            exact ⟨by rw [HR0.out]; rfl, below_drewN (Below.refl _ _) _⟩
    · obtain rfl : k = 12 := by omega
      have hv : letterB toks i (bytesI told) = 0 := letterB_none (fun c hc => by
        obtain ⟨k, hk1, hk2⟩ := HA.out c hc
        rw [← hk2]; exact HN.out k hk1)
      have HV := Lib.hid hv
      clear hv
      go_wp2_with fail
      go_ret
      exact ⟨by rw [HV.out]; rfl, Below.refl _ _⟩
end Go.Proofs.YtechccoongilcaaDoor
/- A map of the call's own from characters to functions: what is put in, what is looked up. -/
namespace Go.Proofs.YtechccoongilcaaDoor
open Go.RowKit Go.ChangeMaps
set_option linter.unusedVariables false
set_option linter.unusedSimpArgs false
theorem Rd.cell {toks : List Tok} {size : Int} {g : Nat} {w : World} {i : Nat} {wr : Bool} {row opn : Value} {s : Sty} {mp : Value} (h : Rd toks size g w i wr row opn s mp) (p : Nat) (hp : p < 18) : ∃ v, w.cell? ⟨g, p, none⟩ = some v := by
  obtain ⟨A, m, c, h1, h2, h3, h4, h5⟩ := h
  exact ⟨_, h5.box.2.2 p _ (List.getElem?_eq_getElem (show p < (rcells (.slice A m c) size wr row opn s mp).length from hp))⟩
theorem Rd.frozen {toks : List Tok} {size : Int} {g : Nat} {w : World} {i : Nat} {wr : Bool} {row opn : Value} {s : Sty} {mp : Value} (h : Rd toks size g w i wr row opn s mp) (p : Nat) : w.frozen? ⟨g, p, none⟩ = false := by
  obtain ⟨A, m, c, h1, h2, h3, h4, h5⟩ := h
  exact h5.box.2.1 p
theorem check_i32 (em : Bool) (c : Int) (w : World) : (Instr.checkKey em 10000 21 (.int .i32 c)).run Tryd.prog w = .ok () w := by kernel_rfl
/-- these entries hold the list's pairs. -/
def Ents (es : List MapEntry) (l : List (Int × Value)) : Prop := es.map (fun e => (e.key, e.val)) = l.map (fun p => (Value.int .i32 p.1, p.2))
def lookL (c : Int) (l : List (Int × Value)) : Option Value := (l.find? (·.1 == c)).map (·.2)
theorem findNow_i32 (c : Int) : ∀ (es : List MapEntry) (l : List (Int × Value)) (i : Nat), Ents es l → ∃ j, Instr.findNow (.int .i32) (.int .i32 c) es i = some ((lookL c l).map fun v => (j, v)) := by
  intro es
  induction es with
  | nil =>
    intro l i h
    cases l with
    | nil => exact ⟨0, rfl⟩
    | cons p l => cases h
  | cons e es ih =>
    intro l i h
    cases l with
    | nil => cases h
    | cons p l =>
      unfold Ents at h
      simp only [List.map_cons, List.cons.injEq, Prod.mk.injEq] at h
      obtain ⟨⟨h1, h2⟩, h3⟩ := h
      obtain ⟨j, hj⟩ := ih l (i + 1) h3
      unfold Instr.findNow
      rw [h1]
      simp only [Instr.sameNow, if_true]
      by_cases hc : c = p.1
      · subst hc
        refine ⟨i, ?_⟩
        simp [lookL, h2]
      · have e1 : (c == p.1) = false := by simp [hc]
        have e2 : (p.1 == c) = false := by simp; exact fun h => hc h.symm
        rw [e1]
        refine ⟨j, ?_⟩
        simp only [hj, lookL, List.find?_cons, e2]
theorem und_i32 : Tryd.prog.underlying 21 = some (.int .i32) := by kernel_rfl
theorem und_map : Tryd.prog.underlying 45 = some (.map 21 1) := by kernel_rfl
theorem find_i32 (c : Int) {es : List MapEntry} {l : List (Int × Value)} (h : Ents es l) (w : World) : ∃ j, (Instr.findKey 21 (.int .i32 c) es).run Tryd.prog w = .ok ((lookL c l).map fun v => (j, v)) w := by
  obtain ⟨j, hj⟩ := findNow_i32 c es l 0 h
  refine ⟨j, ?_⟩
  unfold Instr.findKey
  simp only [Sem.run_bind, run_underlying und_i32, Result.andThen, hj]
  rfl
/-- block M is a map that holds the list's pairs. -/
def Mp (w : World) (M : Nat) (l : List (Int × Value)) : Prop := ∃ es clock, w.heap[M]? = some (.map es clock) ∧ Ents es.toList l
theorem Mp.lt {w : World} {M : Nat} {l : List (Int × Value)} (h : Mp w M l) : M < w.heap.size := by obtain ⟨es, clock, h1, _⟩ := h; exact (Array.getElem?_eq_some_iff.1 h1).1
theorem Mp.of {w w' : World} {M : Nat} {l : List (Int × Value)} (h : Mp w M l) (hb : w'.heap[M]? = w.heap[M]?) : Mp w' M l := by obtain ⟨es, clock, h1, h2⟩ := h; exact ⟨es, clock, hb.trans h1, h2⟩
theorem Mp.below {w w' : World} {M : Nat} {l : List (Int × Value)} (h : Mp w M l) (hb : Below w.heap.size w w') : Mp w' M l := h.of (hb.block M h.lt)
theorem Mp.bar {g : Nat} {w w' : World} {M : Nat} {l : List (Int × Value)} (h : Mp w M l) (hb : Bar g w w') (hg : M ≠ g) : Mp w' M l := h.of (hb.block M h.lt hg)
theorem Mp.new (w : World) : Mp (w.alloc (.map #[] 0)) w.heap.size [] := ⟨#[], 0, World.alloc_heap_new w _, rfl⟩
theorem run_put {w : World} {M : Nat} {l : List (Int × Value)} (h : Mp w M l) (c : Int) (v : Value) (hc : lookL c l = none) :
    ∃ w', (Instr.mapUpdate 45 (.map (some M)) (.int .i32 c) v).run Tryd.prog w = .ok () w' ∧ Mp w' M (l ++ [(c, v)]) ∧ w.grownBy w' (some M) ∧ w'.heap.size = w.heap.size := by
  obtain ⟨es, clock, h1, h2⟩ := h
  obtain ⟨j, hj⟩ := find_i32 c h2 w
  rw [hc] at hj
  refine ⟨setBlock w M (.map (es.push ⟨.int .i32 c, v, clock⟩) (clock + 1)), ?_, ?_, ?_, ?_⟩
  · simp [Instr.mapUpdate, run_underlying und_map, MapKept.run_getObj_map h1, check_i32, hj, MapKept.run_setObj_map _ h1, Result.andThen, setBlock]
  · refine ⟨_, _, heap_setBlock_same h1 _, ?_⟩
    unfold Ents at h2 ⊢
    simp [h2]
  · exact ⟨rfl, rfl, rfl, by simp [setBlock], fun k hk hne => heap_setBlock_other h1 _ (fun e => hne (by rw [e]))⟩
  · simp [setBlock]
theorem zero_fn (w : World) : (zeroValue 1).run Tryd.prog w = .ok .nilFunc w := by kernel_rfl
theorem run_look {w : World} {M : Nat} {l : List (Int × Value)} (h : Mp w M l) (c : Int) :
    (Instr.lookup 45 (.map (some M)) (.int .i32 c) true).run Tryd.prog w = .ok (.tuple #[(lookL c l).getD .nilFunc, .bool (lookL c l).isSome]) w := by
  obtain ⟨es, clock, h1, h2⟩ := h
  obtain ⟨j, hj⟩ := find_i32 c h2 w
  cases hl : lookL c l with
  | none =>
    rw [hl] at hj
    simp [Instr.lookup, run_underlying und_map, MapKept.run_getObj_map h1, check_i32, hj, zero_fn, Result.andThen]
  | some v =>
    rw [hl] at hj
    simp [Instr.lookup, run_underlying und_map, MapKept.run_getObj_map h1, check_i32, hj, Result.andThen]
/-- a pair is put in, at the operation. -/
theorem wpList_put {ops : Array Oper} {rest : List Oper} {o : Oper} {a : Act} {w : World} {Q : Exit → Act → World → Prop} (hgd : o.guard = none) (m k x : Operand) (ho : o.op = .insert 45 m k x) (M : Nat) (hm : a.eval m = .map (some M))
    (c : Int) (hk : a.eval k = .int .i32 c) (v : Value) (hx : a.eval x = v) (l : List (Int × Value)) (h : Mp w M l) (hc : lookL c l = none)
    (hK : ∀ w', Mp w' M (l ++ [(c, v)]) → w.grownBy w' (some M) → w'.heap.size = w.heap.size → wpList Tryd.prog ops Q rest (a.put o.dst undef) w') : wpList Tryd.prog ops Q (o :: rest) a w := by
  refine wpList_plain hgd fun K hK' => ?_
  obtain ⟨w', hr, h1, h2, h3⟩ := run_put h c v hc
  unfold Oper.wp
  have he : (execOp a.eval o).run Tryd.prog w = .ok .skip w' := by
    unfold execOp
    simp [ho, hm, hk, hx, hr, Result.andThen]
  rw [he, Oper.upon_skip]
  exact hK' _ _ (hK w' h1 h2 h3)
/-- what the n-th letter's function is: where it reads to, from and up to which number. -/
def Tells (w : World) (rb : Nat) (part : Addr) (lo hi : Int) (v : Value) : Prop :=
  ∃ D, v = .func (.func 56) #[] #[.pointer (some ⟨rb, 0, none⟩), .pointer (some ⟨D + 1, 0, none⟩), .pointer (some ⟨D + 2, 0, none⟩), .pointer (some ⟨D, 0, none⟩)] ∧
    Box w D [.pointer (some part)] ∧ Box w (D + 1) [.int .i64 lo] ∧ Box w (D + 2) [.int .i64 hi]
theorem Tells.below {w w' : World} {rb : Nat} {part : Addr} {lo hi : Int} {v : Value} (h : Tells w rb part lo hi v) (hb : Below w.heap.size w w') : Tells w' rb part lo hi v := by
  obtain ⟨D, h1, h2, h3, h4⟩ := h
  exact ⟨D, h1, h2.below hb, h3.below hb, h4.below hb⟩
theorem makefn (fn : Fn) (first cap : Array Value) (w : World) : (Instr.makeFunc fn first cap).run Tryd.prog w = .ok (.func fn first cap) w := rfl
theorem numfn_any (rb : Nat) (part : Addr) (lo hi : Int) (w : World) : Calls Tryd.prog 55 #[.pointer (some part), .int .i64 lo, .int .i64 hi, .pointer (some ⟨rb, 0, none⟩)] w fun e w' =>
    ∃ v, e = .returned v ∧ Tells w' rb part lo hi v ∧ Below w.heap.size w w' := by
  have hmf := makefn
  go_enter Tryd.func55, Tryd.ntmps55
  go_wp2
  go_ret
  refine ⟨_, rfl, ⟨w.heap.size, rfl, ?_, ?_, ?_⟩, ?_⟩
  · exact ((Box.new w [.pointer (some part)] _).alloc _).alloc _
  · exact (box_new _ [.int .i64 lo] _ _ (by simp) _ rfl).alloc _
  · exact box_new _ [.int .i64 hi] _ _ (by simp) _ rfl
  · go_grown
/-- a letter's function is called: a number is read, and stored where it tells. -/
theorem tell_to {toks : List Tok} {size : Int} {g rb : Nat} {w : World} {i j p : Nat} {wr b : Bool} {row opn : Value} {s s' : Sty} {mp v : Value} {lo hi n : Int}
    (ht : Tells w rb ⟨g, p, none⟩ lo hi v) (hrb : Box w rb [.pointer (some ⟨g, 0, none⟩)]) (hne : rb ≠ g) (hp : p < 18) (hv : numS toks i wr lo hi = (n, j, b)) (h : Rd toks size g w i wr row opn s mp)
    (hs : ∀ left wr, (rcells left size wr row opn s mp).set p (.int .i64 n) = rcells left size wr row opn s' mp) :
    ∃ cap, v = .func (.func 56) #[] cap ∧ Calls Tryd.prog 56 cap w fun e w' => (∃ v, e = .returned v) ∧ Bar g w w' ∧ w'.heap.size = w.heap.size ∧ Rd toks size g w' j b row opn s' mp := by
  obtain ⟨D, rfl, h1, h2, h3⟩ := ht
  refine ⟨_, rfl, ?_⟩
  have hD : D ≠ g ∧ D + 1 ≠ g ∧ D + 2 ≠ g := by
    obtain ⟨A, m, c, _, _, _, _, h5⟩ := h
    have q := h5.box.2.2 0 _ rfl
    have q1 := h1.2.2 0 _ rfl
    have q2 := h2.2.2 0 _ rfl
    have q3 := h3.2.2 0 _ rfl
    refine ⟨?_, ?_, ?_⟩
    · intro e; rw [e, q] at q1; injection q1 with q1; cases q1
    · intro e; rw [e, q] at q2; injection q2 with q2; cases q2
    · intro e; rw [e, q] at q3; injection q3 with q3; cases q3
  have HM := Lib.hid (pnum_to hv (h.bar (Bar.refl g w).drew rfl))
  have HS := Lib.hid hs
  obtain ⟨a0, _, _⟩ := h1.of1
  obtain ⟨a1, _, _⟩ := h2.of1
  obtain ⟨a2, _, _⟩ := h3.of1
  obtain ⟨a3, _, _⟩ := hrb.of1
  have HX := Lib.hid (show ∀ w', Bar g w w' → w'.cell? ⟨D, 0, none⟩ = some (.pointer (some ⟨g, p, none⟩)) ∧ w'.cell? ⟨rb, 0, none⟩ = some (.pointer (some ⟨g, 0, none⟩)) ∧ w'.cell? ⟨D + 1, 0, none⟩ = some (.int .i64 lo) ∧ w'.cell? ⟨D + 2, 0, none⟩ = some (.int .i64 hi) from fun w' hb =>
    ⟨(h1.bar hb hD.1).2.2 0 _ rfl, (hrb.bar hb hne).2.2 0 _ rfl, (h2.bar hb hD.2.1).2.2 0 _ rfl, (h3.bar hb hD.2.2).2.2 0 _ rfl⟩)
  clear h1 h2 h3 hrb h hs hv
  go_enter Tryd.func56, Tryd.ntmps56
  go_wp2_with fail
  go_region_held3 (fun W' => W'.cell? ⟨D, 0, none⟩ = some (.pointer (some ⟨g, p, none⟩)) ∧ W'.cell? ⟨rb, 0, none⟩ = some (.pointer (some ⟨g, 0, none⟩)) ∧ W'.cell? ⟨D + 1, 0, none⟩ = some (.int .i64 lo) ∧ W'.cell? ⟨D + 2, 0, none⟩ = some (.int .i64 hi)) (first | exact ⟨a0, a3, a1, a2⟩ | exact HX.out _ ((Bar.refl g w).drew.trans hb) | exact HX.out _ (((Bar.refl g w).drew.trans hb).set _ _)) (first
    | (go_at_call 57; ((with_reducible refine HM.out.mono ?_); rintro e w1 ⟨rfl, hb, hs1, hr⟩; have HR := Lib.hid hr; obtain ⟨v5, c5⟩ := hr.cell p hp; have f5 := hr.frozen p; have g5 := hr.lt; clear hr)))
  go_wp2_with fail
  go_end0
  exact ⟨⟨_, rfl⟩, ((Bar.refl g w).drew.trans hb).set _ _, by simpa using hs1, HR.out.set p _ (fun left => HS.out left b)⟩
end Go.Proofs.YtechccoongilcaaDoor
/- The program's package read: how far from the end the reader is. -/
namespace Go.Proofs.YtechccoongilcaaDoor
open Go.RowKit
set_option linter.unusedVariables false
set_option linter.unusedSimpArgs false
def meas (w : World) (g : Nat) : Nat := (match w.cell? ⟨g, 0, .none⟩ with | some (.slice _ n _) => 2 * n | _ => 0) + (match w.cell? ⟨g, 2, .none⟩ with | some (.bool true) => 0 | _ => 1)
theorem Rd.meas {toks : List Tok} {size : Int} {g : Nat} {w : World} {i : Nat} {wr : Bool} {row opn : Value} {s : Sty} {mp : Value} (h : Rd toks size g w i wr row opn s mp) : Go.Proofs.YtechccoongilcaaDoor.meas w g = 2 * (toks.length - i) + (if wr then 0 else 1) := by
  obtain ⟨A, m, c, h1, h2, h3, h4, h5⟩ := h
  have c0 : w.cell? ⟨g, 0, none⟩ = some (.slice A m c) := h5.box.2.2 0 _ rfl
  have c2 : w.cell? ⟨g, 2, none⟩ = some (.bool wr) := h5.box.2.2 2 _ rfl
  have hm := h1.1
  rw [List.length_drop] at hm
  unfold Go.Proofs.YtechccoongilcaaDoor.meas
  rw [c0, c2, hm]
  cases wr <;> rfl
end Go.Proofs.YtechccoongilcaaDoor
/- The program's package read: the letters of attributes, a new reader. -/
namespace Go.Proofs.YtechccoongilcaaDoor
open Go.RowKit Go.ChangeMaps
set_option linter.unusedVariables false
set_option linter.unusedSimpArgs false
def posB (c : Int) : Nat := if c = 109 then 0 else if c = 110 then 1 else if c = 112 then 2 else if c = 113 then 3 else if c = 105 then 4 else if c = 111 then 5 else if c = 119 then 6 else if c = 104 then 7 else if c = 66 then 8 else if c = 65 then 9 else if c = 73 then 10 else 11
def chK (k : Nat) : Int := lettersB.getD k 0
theorem pos_ch : ∀ k, k < 12 → posB (chK k) = k := by decide +kernel
theorem ch_mem : ∀ k, k < 12 → chK k ∈ lettersB := by decide +kernel
theorem ch_pos : ∀ c ∈ lettersB, posB c < 12 ∧ chK (posB c) = c := by decide +kernel
theorem Box.map {w w' : World} {n M : Nat} {v : Value} {l : List (Int × Value)} (h : Box w n [v]) (hM : Mp w M l) (hg : w.grownBy w' (some M)) : Box w' n [v] := by
  have hne : n ≠ M := by
    rintro rfl
    obtain ⟨es, clock, h1, _⟩ := hM
    have := h.2.2 0 _ rfl
    simp [World.cell?, h1] at this
  have e := hg.block n h.1 (fun q => hne (by injection q))
  refine ⟨Nat.lt_of_lt_of_le h.1 hg.size, fun o => ?_, fun j u hu => ?_⟩
  · rw [← h.2.1 o]; simp only [World.frozen?, e]
  · rw [← h.2.2 j u hu]; simp only [World.cell?, e]
theorem Tells.map {w w' : World} {rb M : Nat} {part : Addr} {lo hi : Int} {v : Value} {l : List (Int × Value)} (h : Tells w rb part lo hi v) (hM : Mp w M l) (hg : w.grownBy w' (some M)) : Tells w' rb part lo hi v := by
  obtain ⟨D, h1, h2, h3, h4⟩ := h
  exact ⟨D, h1, h2.map hM hg, h3.map hM hg, h4.map hM hg⟩
theorem lookL_none {c : Int} {l : List (Int × Value)} (h : ∀ p ∈ l, p.1 ≠ c) : lookL c l = none := by
  unfold lookL
  rw [List.find?_eq_none.2 (fun p hp => by simp; exact h p hp)]
  rfl
/-- the reader's letters. -/
structure Lets (w : World) (rb g M : Nat) : Prop where
  box : Box w rb [.pointer (some ⟨g, 0, none⟩)]
  ne : rb ≠ g ∧ M ≠ g
  ex : ∃ l, Mp w M l ∧ (∀ p ∈ l, p.1 ∈ lettersB ∧ Tells w rb ⟨g, 5 + posB p.1, none⟩ (limitB p.1).1 (limitB p.1).2 p.2) ∧ ∀ c ∈ lettersB, ∃ p ∈ l, p.1 = c
theorem Lets.below {w w' : World} {rb g M : Nat} (h : Lets w rb g M) (hb : Below w.heap.size w w') : Lets w' rb g M := by
  obtain ⟨l, h1, h2, h3⟩ := h.ex
  exact ⟨h.box.below hb, h.ne, l, h1.below hb, fun p hp => ⟨(h2 p hp).1, (h2 p hp).2.below hb⟩, h3⟩
theorem Lets.hit {w : World} {rb g M : Nat} (h : Lets w rb g M) {c : Int} (hc : c ∈ lettersB) : ∃ v, (Instr.lookup 45 (.map (some M)) (.int .i32 c) true).run Tryd.prog w = .ok (.tuple #[v, .bool true]) w ∧ Tells w rb ⟨g, 5 + posB c, none⟩ (limitB c).1 (limitB c).2 v := by
  obtain ⟨l, h1, h2, h3⟩ := h.ex
  have hr := run_look h1 c
  cases hl : lookL c l with
  | none =>
    exfalso
    unfold lookL at hl
    simp only [Option.map_eq_none_iff] at hl
    obtain ⟨p, hp, rfl⟩ := h3 c hc
    have := List.find?_eq_none.1 hl p hp
    simp at this
  | some v =>
    rw [hl] at hr
    refine ⟨v, hr, ?_⟩
    unfold lookL at hl
    obtain ⟨p, hp, rfl⟩ := Option.map_eq_some_iff.1 hl
    have e : p.1 = c := by have := List.find?_some hp; simpa using this
    have hm := List.mem_of_find?_eq_some hp
    rw [← e]
    exact (h2 p hm).2
theorem Lets.miss {w : World} {rb g M : Nat} (h : Lets w rb g M) {c : Int} (hc : c ∉ lettersB) : (Instr.lookup 45 (.map (some M)) (.int .i32 c) true).run Tryd.prog w = .ok (.tuple #[.nilFunc, .bool false]) w := by
  obtain ⟨l, h1, h2, h3⟩ := h.ex
  have hr := run_look h1 c
  rw [lookL_none (c := c) (l := l) (fun p hp e => hc (by rw [← e]; exact (h2 p hp).1))] at hr
  exact hr
/-! ### the region that makes the map: what holds of each set of its operations -/
def upd (f : Nat → Value) (s : Nat) (v : Value) (i : Nat) : Value := if i = s then v else f i
theorem upd_same (f : Nat → Value) (s : Nat) (v : Value) : upd f s v s = v := if_pos rfl
theorem upd_ne (f : Nat → Value) {s i : Nat} (v : Value) (h : i ≠ s) : upd f s v i = f i := if_neg h
def Frm (rb g : Nat) (f : Nat → Value) : Act := ⟨#[.pointer (some ⟨g, 0, none⟩), .pointer (some ⟨rb, 0, none⟩), f 2, .func (.func 55) #[] #[.pointer (some ⟨rb, 0, none⟩)], .pointer (some ⟨g, 5, none⟩), .func (.func 55) #[] #[.pointer (some ⟨rb, 0, none⟩)], .pointer (some ⟨g, 0, none⟩), .pointer (some ⟨g, 0, none⟩), .pointer (some ⟨g, 5, none⟩), f 9, f 10, f 11, f 12, f 13, f 14, f 15, f 16, f 17, f 18, f 19, f 20, f 21, f 22, f 23, f 24, f 25, f 26, f 27, f 28, f 29, f 30, f 31, f 32, f 33, f 34, f 35, f 36, f 37, f 38, f 39, f 40, f 41, f 42, f 43, f 44, f 45, f 46, f 47, f 48, f 49, f 50, f 51, f 52, f 53, f 54, f 55, f 56, f 57, f 58, f 59, f 60, f 61, f 62, f 63, f 64, f 65, f 66, f 67, f 68, f 69, f 70], []⟩
/-- what the value of one of the operations says. -/
def cl (rb g : Nat) (w : World) (j : Nat) (v : Value) : Prop :=
  if (j - 1) % 6 = 0 then v = .func (.func 55) #[] #[.pointer (some ⟨rb, 0, none⟩)]
  else if (j - 1) % 6 = 1 then v = .pointer (some ⟨g, 5, none⟩) else if (j - 1) % 6 = 2 then v = .pointer (some ⟨g, 5, none⟩)
  else if (j - 1) % 6 = 3 then v = .pointer (some ⟨g, 5 + (j - 1) / 6, none⟩)
  else Tells w rb ⟨g, 5 + (j - 1) / 6, none⟩ (limitB (chK ((j - 1) / 6))).1 (limitB (chK ((j - 1) / 6))).2 v
theorem cl.below {rb g : Nat} {w w' : World} {j : Nat} {v : Value} (h : cl rb g w j v) (hb : Below w.heap.size w w') : cl rb g w' j v := by
  unfold cl at *
  split
  · simpa [*] using h
  · split
    · simpa [*] using h
    · split
      · simpa [*] using h
      · split
        · simpa [*] using h
        · simp only [*, if_false] at h; exact h.below hb
theorem cl.map {rb g M : Nat} {w w' : World} {j : Nat} {v : Value} {l : List (Int × Value)} (h : cl rb g w j v) (hM : Mp w M l) (hg : w.grownBy w' (some M)) : cl rb g w' j v := by
  unfold cl at *
  split
  · simpa [*] using h
  · split
    · simpa [*] using h
    · split
      · simpa [*] using h
      · split
        · simpa [*] using h
        · simp only [*, if_false] at h; exact h.map hM hg
def slotJ (j : Nat) : Nat := 10 + 5 * ((j - 1) / 6) + (j - 1) % 6
abbrev L (listed : Array Bool) (j : Nat) : Prop := listed.getD j false = true
structure LB (w0 : World) (rb g : Nat) (listed : Array Bool) (f : Nat → Value) (w : World) : Prop where
  size : listed.size = 75
  box : Box w rb [.pointer (some ⟨g, 0, none⟩)]
  below : Below w0.heap.size w0 w
  gl : g < w0.heap.size
  rbl : w0.heap.size ≤ rb
  sl : ∀ j, 1 ≤ j → j ≤ 72 → (j - 1) % 6 < 5 → L listed j → cl rb g w j (f (slotJ j))
  mp : L listed 0 → ∃ M l, f 9 = .map (some M) ∧ w0.heap.size ≤ M ∧ Mp w M l ∧ (∀ p ∈ l, ∃ k, k < 12 ∧ L listed (6 + 6 * k) ∧ p.1 = chK k ∧ Tells w rb ⟨g, 5 + k, none⟩ (limitB (chK k)).1 (limitB (chK k)).2 p.2) ∧ ∀ k, k < 12 → L listed (6 + 6 * k) → ∃ p ∈ l, p.1 = chK k
  e0 : ∀ k, k < 12 → L listed (6 + 6 * k) → L listed 0
  e1 : L listed 73 → L listed 0 ∧ f 70 = f 9
  e2 : L listed 74 → L listed 73 ∧ f 2 = f 70
theorem L_set {listed : Array Bool} {i j : Nat} (h : i ≠ j) : L (listed.setIfInBounds i true) j ↔ L listed j := by unfold L; rw [getD_set_ne false h]
theorem L_self {listed : Array Bool} {j : Nat} (h : listed.getD j true = false) : L (listed.setIfInBounds j true) j := by
  have hj : j < listed.size := by
    rcases Nat.lt_or_ge j listed.size with h' | h'
    · exact h'
    · rw [Array.getD_eq_getD_getElem?, Array.getElem?_eq_none h'] at h; cases h
  unfold L
  simp [Array.getD_eq_getD_getElem?, Array.getElem?_setIfInBounds, hj]
theorem L_not {listed : Array Bool} {j : Nat} (h : listed.getD j true = false) : ¬ L listed j := by
  intro hl
  unfold L at hl
  rcases Nat.lt_or_ge j listed.size with h' | h'
  · rw [Array.getD_eq_getD_getElem?, Array.getElem?_eq_getElem h'] at h hl
    simp at h hl
    rw [h] at hl; cases hl
  · rw [Array.getD_eq_getD_getElem?, Array.getElem?_eq_none h'] at hl; cases hl
theorem LB.slot {w0 : World} {rb g : Nat} {listed : Array Bool} {f : Nat → Value} {w w' : World} (h : LB w0 rb g listed f w) (hb : Below w.heap.size w w') (j : Nat) (h1 : 1 ≤ j) (h2 : j ≤ 72) (h3 : (j - 1) % 6 < 5) {v : Value} (hv : cl rb g w' j v) :
    LB w0 rb g (listed.setIfInBounds j true) (upd f (slotJ j) v) w' := by
  have hs9 : (9 : Nat) ≠ slotJ j := by unfold slotJ; omega
  have hs70 : (70 : Nat) ≠ slotJ j := by unfold slotJ; omega
  have hs2 : (2 : Nat) ≠ slotJ j := by unfold slotJ; omega
  refine ⟨by simp [h.size], h.box.below hb, h.below.trans (hb.mono h.below.size), h.gl, h.rbl, ?_, ?_, ?_, ?_, ?_⟩
  · intro i a1 a2 a3 hl
    by_cases e : i = j
    · subst e; rw [upd_same]; exact hv
    · have hne : slotJ i ≠ slotJ j := by unfold slotJ; omega
      rw [upd_ne _ _ hne]
      exact (h.sl i a1 a2 a3 ((L_set (fun q => e q.symm)).1 hl)).below hb
  · intro hl
    obtain ⟨M, l, b1, b2, b3, b4, b5⟩ := h.mp ((L_set (by omega)).1 hl)
    refine ⟨M, l, by rw [upd_ne _ _ hs9]; exact b1, b2, b3.below hb, fun p hp => ?_, fun k hk hl => b5 k hk ((L_set (by omega)).1 hl)⟩
    obtain ⟨k, k1, k2, k3, k4⟩ := b4 p hp
    exact ⟨k, k1, (L_set (by omega)).2 k2, k3, k4.below hb⟩
  · intro k hk hl; exact (L_set (by omega)).2 (h.e0 k hk ((L_set (by omega)).1 hl))
  · intro hl
    obtain ⟨a, b⟩ := h.e1 ((L_set (by omega)).1 hl)
    exact ⟨(L_set (by omega)).2 a, by rw [upd_ne _ _ hs70, upd_ne _ _ hs9]; exact b⟩
  · intro hl
    obtain ⟨a, b⟩ := h.e2 ((L_set (by omega)).1 hl)
    exact ⟨(L_set (by omega)).2 a, by rw [upd_ne _ _ hs2, upd_ne _ _ hs70]; exact b⟩
theorem LB.make {w0 : World} {rb g : Nat} {listed : Array Bool} {f : Nat → Value} {w : World} (h : LB w0 rb g listed f w) (hn : listed.getD 0 true = false) :
    LB w0 rb g (listed.setIfInBounds 0 true) (upd f 9 (.map (some w.heap.size))) (w.alloc (.map #[] 0)) := by
  have hb : Below w.heap.size w (w.alloc (.map #[] 0)) := (Below.refl _ _).alloc (Nat.le_refl _) _
  have h73 : ¬ L listed 73 := fun q => L_not hn (h.e1 q).1
  have hno : ∀ k, k < 12 → L listed (6 + 6 * k) → False := fun k hk q => L_not hn (h.e0 k hk q)
  refine ⟨by simp [h.size], h.box.below hb, h.below.trans (hb.mono h.below.size), h.gl, h.rbl, ?_, ?_, ?_, ?_, ?_⟩
  · intro i a1 a2 a3 hl
    rw [upd_ne _ _ (by unfold slotJ; omega)]
    exact (h.sl i a1 a2 a3 ((L_set (by omega)).1 hl)).below hb
  · intro hl
    exact ⟨_, [], upd_same _ _ _, h.below.size, Mp.new w, fun p hp => by simp at hp, fun k hk hl => (hno k hk ((L_set (by omega)).1 hl)).elim⟩
  · intro k hk hl; exact (hno k hk ((L_set (by omega)).1 hl)).elim
  · intro hl; exact (h73 ((L_set (by omega)).1 hl)).elim
  · intro hl; exact (h73 (h.e2 ((L_set (by omega)).1 hl)).1).elim
theorem LB.fresh {w0 : World} {rb g : Nat} {listed : Array Bool} {f : Nat → Value} {w : World} (h : LB w0 rb g listed f w) (k : Nat) (hk : k < 12) (hn : listed.getD (6 + 6 * k) true = false) (h0 : L listed 0) (h1 : L listed (5 + 6 * k)) :
    ∃ M l v, f 9 = .map (some M) ∧ f (14 + 5 * k) = v ∧ Mp w M l ∧ lookL (chK k) l = none ∧ ∀ w', Mp w' M (l ++ [(chK k, v)]) → w.grownBy w' (some M) → LB w0 rb g (listed.setIfInBounds (6 + 6 * k) true) f w' := by
  obtain ⟨M, l, b1, b2, b3, b4, b5⟩ := h.mp h0
  have hs := h.sl (5 + 6 * k) (by omega) (by omega) (by omega) h1
  have e1 : (5 + 6 * k - 1) % 6 = 4 := by omega
  have e2 : (5 + 6 * k - 1) / 6 = k := by omega
  have e3 : slotJ (5 + 6 * k) = 14 + 5 * k := by unfold slotJ; omega
  have ht : Tells w rb ⟨g, 5 + k, none⟩ (limitB (chK k)).1 (limitB (chK k)).2 (f (14 + 5 * k)) := by
    unfold cl at hs
    rw [e1, e2, e3] at hs
    simpa using hs
  refine ⟨M, l, f (14 + 5 * k), b1, rfl, b3, lookL_none (fun p hp e => ?_), fun w' hm hg => ?_⟩
  · obtain ⟨k', k1, k2, k3, _⟩ := b4 p hp
    have : k' = k := by rw [← pos_ch k' k1, ← pos_ch k hk, ← k3, e]
    subst this
    exact L_not hn k2
  · refine ⟨by simp [h.size], h.box.map b3 hg, h.below.grown hg h.below.size (fun q e => by cases e; exact b2), h.gl, h.rbl, ?_, ?_, ?_, ?_, ?_⟩
    · intro i a1 a2 a3 hl
      exact (h.sl i a1 a2 a3 ((L_set (by omega)).1 hl)).map b3 hg
    · intro hl
      refine ⟨M, _, b1, b2, hm, fun p hp => ?_, fun k' hk' hl => ?_⟩
      · rcases List.mem_append.1 hp with hp | hp
        · obtain ⟨k', k1, k2, k3, k4⟩ := b4 p hp
          refine ⟨k', k1, ?_, k3, k4.map b3 hg⟩
          by_cases e : k' = k
          · subst e; exact (L_not hn k2).elim
          · exact (L_set (by omega)).2 k2
        · simp only [List.mem_singleton] at hp
          subst hp
          exact ⟨k, hk, L_self hn, rfl, ht.map b3 hg⟩
      · by_cases e : k' = k
        · subst e; exact ⟨(chK k', f (14 + 5 * k')), by simp, rfl⟩
        · obtain ⟨p, hp, e'⟩ := b5 k' hk' ((L_set (by omega)).1 hl)
          exact ⟨p, by simp [hp], e'⟩
    · intro k' hk' hl; exact (L_set (by omega)).2 h0
    · intro hl
      obtain ⟨a, b⟩ := h.e1 ((L_set (by omega)).1 hl)
      exact ⟨(L_set (by omega)).2 a, b⟩
    · intro hl
      obtain ⟨a, b⟩ := h.e2 ((L_set (by omega)).1 hl)
      exact ⟨(L_set (by omega)).2 a, b⟩
theorem LB.copy {w0 : World} {rb g : Nat} {listed : Array Bool} {f : Nat → Value} {w : World} (h : LB w0 rb g listed f w) (h0 : L listed 0) : LB w0 rb g (listed.setIfInBounds 73 true) (upd f 70 (f 9)) w := by
  refine ⟨by simp [h.size], h.box, h.below, h.gl, h.rbl, ?_, ?_, ?_, ?_, ?_⟩
  · intro i a1 a2 a3 hl
    rw [upd_ne _ _ (by unfold slotJ; omega)]
    exact h.sl i a1 a2 a3 ((L_set (by omega)).1 hl)
  · intro hl
    obtain ⟨M, l, b1, b2, b3, b4, b5⟩ := h.mp h0
    refine ⟨M, l, by rw [upd_ne _ _ (by omega)]; exact b1, b2, b3, fun p hp => ?_, fun k hk hl => b5 k hk ((L_set (by omega)).1 hl)⟩
    obtain ⟨k, k1, k2, k3, k4⟩ := b4 p hp
    exact ⟨k, k1, (L_set (by omega)).2 k2, k3, k4⟩
  · intro k hk hl; exact (L_set (by omega)).2 h0
  · intro hl; exact ⟨(L_set (by omega)).2 h0, by rw [upd_same, upd_ne _ _ (by omega)]⟩
  · intro hl
    obtain ⟨a, b⟩ := h.e2 ((L_set (by omega)).1 hl)
    obtain ⟨c, d⟩ := h.e1 a
    exact ⟨getD_set_true a, by rw [upd_ne _ _ (by omega), upd_same, b, d]⟩
theorem LB.last {w0 : World} {rb g : Nat} {listed : Array Bool} {f : Nat → Value} {w : World} (h : LB w0 rb g listed f w) (h0 : L listed 73) : LB w0 rb g (listed.setIfInBounds 74 true) (upd f 2 (f 70)) w := by
  refine ⟨by simp [h.size], h.box, h.below, h.gl, h.rbl, ?_, ?_, ?_, ?_, ?_⟩
  · intro i a1 a2 a3 hl
    rw [upd_ne _ _ (by unfold slotJ; omega)]
    exact h.sl i a1 a2 a3 ((L_set (by omega)).1 hl)
  · intro hl
    obtain ⟨M, l, b1, b2, b3, b4, b5⟩ := h.mp ((L_set (by omega)).1 hl)
    refine ⟨M, l, by rw [upd_ne _ _ (by omega)]; exact b1, b2, b3, fun p hp => ?_, fun k hk hl => b5 k hk ((L_set (by omega)).1 hl)⟩
    obtain ⟨k, k1, k2, k3, k4⟩ := b4 p hp
    exact ⟨k, k1, (L_set (by omega)).2 k2, k3, k4⟩
  · intro k hk hl; exact (L_set (by omega)).2 (h.e0 k hk ((L_set (by omega)).1 hl))
  · intro hl
    obtain ⟨a, b⟩ := h.e1 ((L_set (by omega)).1 hl)
    exact ⟨(L_set (by omega)).2 a, by rw [upd_ne _ _ (by omega), upd_ne _ _ (by omega)]; exact b⟩
  · intro hl; exact ⟨(L_set (by omega)).2 h0, by rw [upd_same, upd_ne _ _ (by omega)]⟩
theorem LB.all {w0 : World} {rb g : Nat} {listed : Array Bool} {f : Nat → Value} {w : World} (h : LB w0 rb g listed f w) (ha : ∀ j, j < 75 → L listed j) : ∃ M, f 2 = .map (some M) ∧ Lets w rb g M ∧ Below w0.heap.size w0 w := by
  obtain ⟨M, l, b1, b2, b3, b4, b5⟩ := h.mp (ha 0 (by omega))
  obtain ⟨_, c1⟩ := h.e1 (ha 73 (by omega))
  obtain ⟨_, c2⟩ := h.e2 (ha 74 (by omega))
  have := h.gl
  have := h.rbl
  refine ⟨M, by rw [c2, c1, b1], ⟨h.box, ⟨by omega, by omega⟩, l, b3, fun p hp => ?_, fun c hc => ?_⟩, h.below⟩
  · obtain ⟨k, k1, k2, k3, k4⟩ := b4 p hp
    rw [k3, pos_ch k k1]
    exact ⟨ch_mem k k1, k4⟩
  · obtain ⟨p1, p2⟩ := ch_pos c hc
    obtain ⟨p, hp, e⟩ := b5 (posB c) p1 (ha _ (by omega))
    exact ⟨p, hp, by rw [e, p2]⟩
end Go.Proofs.YtechccoongilcaaDoor
/- A script that is written out; answers by value. -/
namespace Go.Proofs.YtechccoongilcaaDoor
open Go.RowKit
set_option linter.unusedVariables false
set_option linter.unusedSimpArgs false
def ReadOk (w : World) (x : List Nd) (e : Ending) (w' : World) : Prop := ∃ A n c, e = .returned (.tuple #[.slice A n c, .int .i64 0, .int .i64 0]) ∧ Nds w.heap.size w' A n x ∧ Below w.heap.size w w'
theorem of_ok {w w' : World} {s : ByteArray} {e : Ending} {x : List Nd} (h : ReadB s (some x, 0)) (hp : OfPost w s e w') : ReadOk w x e w' := by
  rcases hp with ⟨x', A, n, c, h1, h2, h3, h4⟩ | ⟨k, h1, _⟩
  · have := h.det h1
    injection this with h5 _; injection h5 with h5; subst h5
    exact ⟨A, n, c, h2, h3, h4⟩
  · have := h.det h1
    injection this with h5 _; cases h5
theorem of_bad {w w' : World} {s : ByteArray} {e : Ending} {k : Nat} (h : ReadB s (none, k)) (hp : OfPost w s e w') : e = .returned (.tuple #[.slice none 0 0, .int .i64 (k : Int), .int .i64 1]) ∧ Below w.heap.size w w' := by
  rcases hp with ⟨x', A, n, c, h1, _⟩ | ⟨k', h1, h2, h3⟩
  · have := h.det h1
    injection this with h5 _; cases h5
  · have := h.det h1
    injection this with _ h5; subst h5
    exact ⟨h2, h3⟩
/-- a script that is written out. -/
def evalF (s : ByteArray) : Option (Option (List Nd) × Nat) := match lexB s with
  | (some toks, 0) => readF toks s.size
  | (none, k) => some (none, k)
  | _ => none
theorem evalF_ok {s : ByteArray} {r : Option (List Nd) × Nat} (h : evalF s = some r) : ReadB s r := by
  unfold evalF at h
  split at h
  · rename_i toks h1; exact .inr ⟨toks, 0, h1, readF_ok h⟩
  · rename_i k h1; cases h; exact .inl ⟨k, h1, rfl⟩
  · cases h
end Go.Proofs.YtechccoongilcaaDoor
/- Nodes that can be read: each one's cells. -/
namespace Go.Proofs.YtechccoongilcaaDoor
open Go.RowKit
set_option linter.unusedVariables false
set_option linter.unusedSimpArgs false
theorem rows_range {w : World} {A : Option Addr} {n k : Nat} {zs : List NdM} (h : Rows 20 encM w A n zs) (hk : k < n) : ∃ b off m, A = some ⟨b, off, none⟩ ∧ b < w.heap.size ∧ zs[k]? = some m ∧ w.rangeAt b (off + k * 20) (encM m) := by
  obtain ⟨b, off, m, h1, h2, h3, h4⟩ := h.at_ hk
  exact ⟨b, off, m, h1, h2, h3, h4⟩
theorem range_on {w : World} {b o : Nat} {cs : List Value} (h : w.rangeAt b o cs) : ∀ W', On w W' → W'.rangeAt b o cs := fun W' hW j v hv => On.cell (h j v hv) W' hW
theorem Sees.at_ {w : World} {A : Option Addr} {n k : Nat} {l : List Nd} (h : Sees w A n l) (hk : k < n) : ∃ b off m x, A = some ⟨b, off, none⟩ ∧ b < w.heap.size ∧ l[k]? = some x ∧ w.rangeAt b (off + k * 20) (encM m) ∧ Shows w m x := by
  obtain ⟨zs, h1, h2, h3⟩ := h
  obtain ⟨b, off, m, e1, e2, e3, e4⟩ := rows_range h1 hk
  have hl := h1.1
  have hx : l[k]? = some (l[k]'(by omega)) := List.getElem?_eq_getElem _
  exact ⟨b, off, m, _, e1, e2, hx, e4, h3 k m _ e3 hx⟩
theorem Sees.bound {w : World} {A : Option Addr} {n : Nat} {l : List Nd} (h : Sees w A n l) : n ≤ 9223372036854775807 := by
  obtain ⟨zs, h1, _⟩ := h
  exact h1.2.1
theorem Sees.on {w w' : World} {A : Option Addr} {n : Nat} {l : List Nd} (h : Sees w A n l) (hb : On w w') : Sees w' A n l := h.below hb
theorem Sees.nil (w : World) : Sees w none 0 [] := ⟨[], Rows.nil _ _, rfl, fun i m x h => by simp at h⟩
end Go.Proofs.YtechccoongilcaaDoor
/- The program's package read: whether a letter was told: the library's Index and Contains at characters; a style that says nothing. -/
namespace Go.Proofs.YtechccoongilcaaDoor
open Go.RowKit
set_option linter.unusedVariables false
set_option linter.unusedSimpArgs false
def enc32 (z : Int) : List Value := [.int .i32 z]
theorem enc32_len (z : Int) : (enc32 z).length = 1 := rfl
theorem index_any (zs : List Int) (A : Option Addr) (n c' : Nat) (c : Int) (w : World) (hR : Rows 1 enc32 w A n zs) :
    Calls Tryd.prog 90 #[.slice A n c', .int .i32 c] w fun e w' => ∃ r : Int, e = .returned (.int .i64 r) ∧ decide (0 ≤ r) = decide (c ∈ zs) ∧ w = w' := by
  have hn := hR.2.1
  have hlen := hR.1
  have HR := Lib.hid hR
  clear hR
  go_enter Tryd.func90, Tryd.ntmps90
  go_wp2_with fail
  go_loopw [8] (fun v wr => ∃ k : Nat, k ≤ n ∧ v = .int .i64 k ∧ (∀ j, j < k → zs[j]? ≠ some c) ∧ wr = w) (fun v _ => n - (intOf v).toNat)
  case atStart => exact ⟨0, by omega, rfl, fun j hj => by omega, rfl⟩
  case round =>
    obtain ⟨k, hk, rfl, hno, rfl⟩ := hrel
    have HN := Lib.hid hno
    clear hno
    by_cases hlt : k < n
    · obtain ⟨b, off, z, rfl, hb, hx, hc⟩ := HR.out.at_ hlt
      have c0 : wr.cell? ⟨b, off + k, none⟩ = some (.int .i32 z) := by have := hc 0 _ rfl; simpa using this
      have HX := Lib.hid hx
      clear hx hc
      have h2 : (k : Int) < (n : Int) := by omega
      by_cases hz : z = c
      · subst hz
        have HM := Lib.hid (List.mem_of_getElem? HX.out)
        go_wp2_with fail
        go_ret
        exact ⟨k, rfl, by rw [decide_eq_true (show (0 : Int) ≤ (k : Int) by omega), decide_eq_true HM.out], rfl⟩
      · have hz2 : (c == z) = false := by simp; exact fun h => hz h.symm
        go_wp2_with fail
        go_roundw
        case rel => exact ⟨k + 1, by omega, by go_num, fun j hj => by
          by_cases e : j = k
          · subst e; rw [HX.out]; simpa using hz
          · exact HN.out j (by omega), by first | rfl | trivial⟩
        case measure => simp [intOf]; omega
    · have h2 : (n : Int) ≤ (k : Int) := by omega
      have HM := Lib.hid (show c ∉ zs from fun hm => by
        obtain ⟨j, hj, e⟩ := List.getElem_of_mem hm
        exact HN.out j (by omega) (by rw [List.getElem?_eq_getElem hj, e]))
      go_wp2_with fail
      go_ret
      exact ⟨-1, rfl, by rw [decide_eq_false HM.out]; rfl, rfl⟩
theorem contains_to {zs : List Int} {A : Option Addr} {n c' : Nat} {c : Int} {v : Bool} (hv : decide (c ∈ zs) = v) (w : World) (hR : Rows 1 enc32 w A n zs) :
    Calls Tryd.prog 80 #[.slice A n c', .int .i32 c] w fun e w' => e = .returned (.bool v) ∧ w = w' := by
  have HR := Lib.hid hR
  have HV := Lib.hid hv
  clear hR hv
  go_enter Tryd.func80, Tryd.ntmps80
  go_wp2_with fail
  refine (index_any zs A n c' c w HR.out).mono ?_
  rintro e w' ⟨r, rfl, hr, rfl⟩
  have HQ := Lib.hid hr
  clear hr
  go_wp2_with fail
  go_ret
  exact ⟨ret_bool (by rw [← HV.out, ← HQ.out]), rfl⟩
theorem plain_any (w : World) : Calls Tryd.prog 79 #[] w fun e w' => e = .returned (.agg (encS12 .plain).toArray) ∧ Below w.heap.size w w' := by
  go_enter Tryd.func79, Tryd.ntmps79
  go_wp2_with fail
  first
    | (go_ret; exact ⟨rfl, Below.refl _ _⟩)
    | (refine bodyPost_ret (v := .agg (encS12 .plain).toArray) (by simp [results, Tryd.results79, go_sem, encS12, Sty.plain]) rfl ⟨rfl, by go_grown⟩)
end Go.Proofs.YtechccoongilcaaDoor
