/-
 Where blocks of a body are open: places; plain mathematics of a match.
 A sound body, step by step: what its blocks and its stack are.
 A sound body: the blocks that are open, and where they were opened.
 A sound body: where its ways lead, and what is known there.
 A sound body: each way keeps what is there, and leads to a place at which just that is known.
 A sound body: what its ways ask is there.
 A sound body: no way leads into a block.
-/
import Derived.Test.YtlfihndbnaaodaaGreatDoorIWA
import Derived.Test.YtlfihndbnaaodaaGreatDoorINSeg
namespace Go.Proofs.YtlfihndbnaaodaaGreatDoor
open Go.RowKit
set_option linter.unusedVariables false
theorem opens_iff (x : Int) : opens x = true ↔ isO x := by
 unfold opens isO
 simp only [Bool.or_eq_true, beq_iff_eq]
 omega
def plc (L : List InsD) : Nat → List Nat
 | 0 => []
 | i + 1 => if opens (opAt L i) = true then plc L i ++ [i] else if opAt L i = 11 then (plc L i).dropLast else plc L i
section
variable {L : List InsD} {E S : List Int}
theorem plc_open {i : Nat} (h : isO (opAt L i)) : plc L (i + 1) = plc L i ++ [i] := if_pos ((opens_iff _).2 h)
theorem plc_end {i : Nat} (h : opAt L i = 11) : plc L (i + 1) = (plc L i).dropLast := by
 show (if opens (opAt L i) = true then _ else _) = _
 rw [h]
 rfl
theorem plc_keep {i : Nat} (h : ¬ isO (opAt L i)) (h2 : opAt L i ≠ 11) : plc L (i + 1) = plc L i := by
 show (if opens (opAt L i) = true then _ else _) = _
 rw [if_neg (fun e => h ((opens_iff _).1 e)), if_neg h2]
theorem plc_lt : ∀ (x p : Nat), p ∈ plc L x → p < x
 | 0, p, h => by cases h
 | x + 1, p, h => by
  have ih := plc_lt x p
  unfold plc at h
  split at h
  ·rcases List.mem_append.1 h with h | h
   ·have := ih h; omega
   ·obtain rfl := List.mem_singleton.1 h; omega
  ·split at h
   ·have := ih (List.dropLast_subset _ h); omega
   ·have := ih h; omega
theorem plc_grow {y : Nat} : ∀ (x p : Nat), y ≤ x → p ∈ plc L x → p ∈ plc L y ∨ y ≤ p
 | 0, p, h, hp => by cases hp
 | x + 1, p, h, hp => by
  by_cases e : y = x + 1
  ·rw [e]; exact Or.inl hp
  ·have ih := plc_grow x p (show y ≤ x by omega)
   unfold plc at hp
   split at hp
   ·rcases List.mem_append.1 hp with hp | hp
    ·exact ih hp
    ·obtain rfl := List.mem_singleton.1 hp; exact Or.inr (by omega)
   ·split at hp
    ·exact ih (List.dropLast_subset _ hp)
    ·exact ih hp
def GoodB (L : List InsD) (E S : List Int) (p e : Nat) : Prop :=
 E.getD p 0 = (e : Int) ∧ p < e ∧ opAt L e = 11 ∧ plc L e = plc L p ++ [p] ∧ (∀ x, p < x → x ≤ e → p ∈ plc L x) ∧
  (opAt L p = 4 → (S.getD p 0 = -1 ∧ ∀ t, p < t → t < e → opAt L t = 5 → plc L t ≠ plc L p ++ [p]) ∨ ∃ t : Nat, S.getD p 0 = (t : Int) ∧ p < t ∧ t < e ∧ opAt L t = 5 ∧ plc L t = plc L p ++ [p])
theorem isO_of {x : Int} (h : x = 2 ∨ x = 3) : isO x := by unfold isO; omega
theorem isO_4 {x : Int} (h : x = 4) : isO x := by unfold isO; omega
theorem seg_plc {i j d s : Nat} (h : Seg L E S i j d s) : plc L j = plc L i ∧ (∀ k, i ≤ k → k ≤ j → plc L i <+: plc L k) ∧ (∀ k, i ≤ k → k < j → opAt L k = 5 → (plc L i).length < (plc L k).length) ∧ (∀ p, i ≤ p → p < j → isO (opAt L p) → ∃ e, GoodB L E S p e ∧ e < j) ∧ ∀ k, i ≤ k → k < j → opAt L k = 5 → ∃ p, opAt L p = 4 ∧ p < k ∧ plc L k = plc L p ++ [p] := by
 induction h with
 | nil i h => exact ⟨rfl, fun k h1 h2 => by rw [show k = i by omega]; exact List.prefix_refl _, fun k h1 h2 => by omega, fun p h1 h2 => by omega, fun k h1 h2 => by omega⟩
 | single i j d s h o o5 o11 e r ih =>
  obtain ⟨a1, a2, a3, a4, a5⟩ := ih
  have hk := plc_keep o o11
  rw [hk] at a1 a2 a3
  refine ⟨a1, fun k h1 h2 => ?_, fun k h1 h2 h5 => ?_, fun p h1 h2 ho => ?_, fun k h1 h2 h5 => ?_⟩
  ·by_cases e : k = i
   ·rw [e]; exact List.prefix_refl _
   ·exact a2 k (by omega) h2
  ·by_cases e : k = i
   ·rw [e] at h5; exact absurd h5 o5
   ·exact a3 k (by omega) h2 h5
  ·by_cases e : p = i
   ·rw [e] at ho; exact absurd ho o
   ·exact a4 p (by omega) h2 ho
  ·by_cases e : k = i
   ·rw [e] at h5; exact absurd h5 o5
   ·exact a5 k (by omega) h2 h5
 | block i q j d1 s1 d s h hq o oq e r1 r ih1 ih =>
  obtain ⟨a1, a2, a3, a4, a5⟩ := ih1
  obtain ⟨b1, b2, b3, b4, b5⟩ := ih
  have hk := plc_open (isO_of o)
  have hq2 : plc L (q + 1) = plc L i := by rw [plc_end oq, a1, hk, List.dropLast_concat]
  rw [hq2] at b1 b2 b3
  rw [hk] at a1 a2 a3
  have hpi : plc L i <+: plc L i ++ [i] := List.prefix_append _ _
  refine ⟨b1, fun k h1 h2 => ?_, fun k h1 h2 h5 => ?_, fun p h1 h2 ho => ?_, fun k h1 h2 h5 => ?_⟩
  ·by_cases e1 : k = i
   ·rw [e1]; exact List.prefix_refl _
   ·by_cases e2 : k ≤ q
    ·exact hpi.trans (a2 k (by omega) e2)
    ·exact b2 k (by omega) h2
  ·by_cases e1 : k = i
   ·rw [e1] at h5; omega
   ·by_cases e2 : k < q
    ·have := a3 k (by omega) e2 h5; simp at this; omega
    ·by_cases e3 : k = q
     ·rw [e3] at h5; omega
     ·exact b3 k (by omega) h2 h5
  ·by_cases e1 : p = i
   ·rw [e1]
    refine ⟨q, ⟨e, h, oq, a1, fun x hx1 hx2 => (a2 x (by omega) hx2).subset (by simp), fun h4 => by omega⟩, hq⟩
   ·by_cases e2 : p < q
    ·obtain ⟨e', g, he'⟩ := a4 p (by omega) e2 ho
     exact ⟨e', g, by omega⟩
    ·by_cases e3 : p = q
     ·rw [e3] at ho; unfold isO at ho; omega
     ·exact b4 p (by omega) h2 ho
  ·by_cases e1 : k = i
   ·rw [e1] at h5; omega
   ·by_cases e2 : k < q
    ·exact a5 k (by omega) e2 h5
    ·by_cases e3 : k = q
     ·rw [e3] at h5; omega
     ·exact b5 k (by omega) h2 h5
 | ifN i q j d1 s1 d s h hq o oq e t r1 r ih1 ih =>
  obtain ⟨a1, a2, a3, a4, a5⟩ := ih1
  obtain ⟨b1, b2, b3, b4, b5⟩ := ih
  have hk := plc_open (isO_4 o)
  have hq2 : plc L (q + 1) = plc L i := by rw [plc_end oq, a1, hk, List.dropLast_concat]
  rw [hq2] at b1 b2 b3
  rw [hk] at a1 a2 a3
  have hpi : plc L i <+: plc L i ++ [i] := List.prefix_append _ _
  refine ⟨b1, fun k h1 h2 => ?_, fun k h1 h2 h5 => ?_, fun p h1 h2 ho => ?_, fun k h1 h2 h5 => ?_⟩
  ·by_cases e1 : k = i
   ·rw [e1]; exact List.prefix_refl _
   ·by_cases e2 : k ≤ q
    ·exact hpi.trans (a2 k (by omega) e2)
    ·exact b2 k (by omega) h2
  ·by_cases e1 : k = i
   ·rw [e1] at h5; omega
   ·by_cases e2 : k < q
    ·have := a3 k (by omega) e2 h5; simp at this; omega
    ·by_cases e3 : k = q
     ·rw [e3] at h5; omega
     ·exact b3 k (by omega) h2 h5
  ·by_cases e1 : p = i
   ·rw [e1]
    refine ⟨q, ⟨e, h, oq, a1, fun x hx1 hx2 => (a2 x (by omega) hx2).subset (by simp), fun h4 => Or.inl ⟨t, fun t' h1 h2 h5 e' => ?_⟩⟩, hq⟩
    have := a3 t' (by omega) h2 h5
    rw [e'] at this
    omega
   ·by_cases e2 : p < q
    ·obtain ⟨e', g, he'⟩ := a4 p (by omega) e2 ho
     exact ⟨e', g, by omega⟩
    ·by_cases e3 : p = q
     ·rw [e3] at ho; unfold isO at ho; omega
     ·exact b4 p (by omega) h2 ho
  ·by_cases e1 : k = i
   ·rw [e1] at h5; omega
   ·by_cases e2 : k < q
    ·exact a5 k (by omega) e2 h5
    ·by_cases e3 : k = q
     ·rw [e3] at h5; omega
     ·exact b5 k (by omega) h2 h5
 | ifE i t q j d1 s1 d2 s2 d s h ht hq o ot oq e te r1 r2 r ih1 ih2 ih =>
  obtain ⟨a1, a2, a3, a4, a5⟩ := ih1
  obtain ⟨c1, c2, c3, c4, c5⟩ := ih2
  obtain ⟨b1, b2, b3, b4, b5⟩ := ih
  have hk := plc_open (isO_4 o)
  have ht2 : plc L (t + 1) = plc L i ++ [i] := by rw [plc_keep (by rw [ot]; unfold isO; omega) (by rw [ot]; decide), a1, hk]
  rw [ht2] at c1 c2 c3
  have hq2 : plc L (q + 1) = plc L i := by rw [plc_end oq, c1, List.dropLast_concat]
  rw [hq2] at b1 b2 b3
  rw [hk] at a1 a2 a3
  have hpi : plc L i <+: plc L i ++ [i] := List.prefix_append _ _
  refine ⟨b1, fun k h1 h2 => ?_, fun k h1 h2 h5 => ?_, fun p h1 h2 ho => ?_, fun k h1 h2 h5 => ?_⟩
  ·by_cases e1 : k = i
   ·rw [e1]; exact List.prefix_refl _
   ·by_cases e2 : k ≤ t
    ·exact hpi.trans (a2 k (by omega) e2)
    ·by_cases e3 : k ≤ q
     ·exact hpi.trans (c2 k (by omega) e3)
     ·exact b2 k (by omega) h2
  ·by_cases e1 : k = i
   ·rw [e1] at h5; omega
   ·by_cases e2 : k < t
    ·have := a3 k (by omega) e2 h5; simp at this; omega
    ·by_cases e4 : k = t
     ·rw [e4, a1]; simp
     ·by_cases e5 : k < q
      ·have := c3 k (by omega) e5 h5; simp at this; omega
      ·by_cases e3 : k = q
       ·rw [e3] at h5; omega
       ·exact b3 k (by omega) h2 h5
  ·by_cases e1 : p = i
   ·rw [e1]
    refine ⟨q, ⟨e, by omega, oq, c1, fun x hx1 hx2 => ?_, fun h4 => Or.inr ⟨t, te, h, ht, ot, a1⟩⟩, hq⟩
    by_cases hxt : x ≤ t
    ·exact (a2 x (by omega) hxt).subset (by simp)
    ·exact (c2 x (by omega) hx2).subset (by simp)
   ·by_cases e2 : p < t
    ·obtain ⟨e', g, he'⟩ := a4 p (by omega) e2 ho
     exact ⟨e', g, by omega⟩
    ·by_cases e4 : p = t
     ·rw [e4] at ho; unfold isO at ho; omega
     ·by_cases e5 : p < q
      ·obtain ⟨e', g, he'⟩ := c4 p (by omega) e5 ho
       exact ⟨e', g, by omega⟩
      ·by_cases e3 : p = q
       ·rw [e3] at ho; unfold isO at ho; omega
       ·exact b4 p (by omega) h2 ho
  ·by_cases e1 : k = i
   ·rw [e1] at h5; omega
   ·by_cases e2 : k < t
    ·exact a5 k (by omega) e2 h5
    ·by_cases e4 : k = t
     ·rw [e4]; exact ⟨i, o, h, a1⟩
     ·by_cases e5 : k < q
      ·exact c5 k (by omega) e5 h5
      ·by_cases e3 : k = q
       ·rw [e3] at h5; omega
       ·exact b5 k (by omega) h2 h5
theorem GoodB.iff {p e x : Nat} (g : GoodB L E S p e) : p ∈ plc L x ↔ p < x ∧ x ≤ e := by
 obtain ⟨_, g2, g3, g4, g5, _⟩ := g
 refine ⟨fun h => ⟨plc_lt _ _ h, ?_⟩, fun ⟨h1, h2⟩ => g5 x h1 h2⟩
 rcases Nat.lt_or_ge e x with hx | hx
 ·exfalso
  rcases plc_grow (y := e + 1) x p hx h with h1 | h1
  ·rw [plc_end g3, g4, List.dropLast_concat] at h1
   have := plc_lt _ _ h1
   omega
  ·omega
 ·exact hx
theorem blocks_good (h : nChk L = 0) : opAt L (L.length - 1) = 11 ∧ plc L (L.length - 1) = [] ∧ 0 < L.length ∧ (∀ p, p < L.length → isO (opAt L p) → ∃ e, GoodB L (matchOf L).2.1 (matchOf L).2.2 p e ∧ e < L.length - 1) ∧ ∀ k, k < L.length → opAt L k = 5 → ∃ p, opAt L p = 4 ∧ p < k ∧ plc L k = plc L p ++ [p] := by
 obtain ⟨h1, d, s, hs⟩ := match_seg L h
 obtain ⟨a1, _, _, a4, a5⟩ := seg_plc hs
 have hl := (nChk_ok L h).2.2.2
 refine ⟨h1, a1, hl, fun p hp ho => ?_, fun k hk h5 => ?_⟩
 ·by_cases e : p = L.length - 1
  ·rw [e, h1] at ho; unfold isO at ho; omega
  ·exact a4 p (Nat.zero_le _) (by omega) ho
 ·by_cases e : k = L.length - 1
  ·rw [e, h1] at h5; omega
  ·exact a5 k (Nat.zero_le _) (by omega) h5
end
end Go.Proofs.YtlfihndbnaaodaaGreatDoor
namespace Go.Proofs.YtlfihndbnaaodaaGreatDoor
open Go.RowKit
set_option linter.unusedVariables false
section
variable {m : ModD} {loc st : List Int} {pre : List BlkV} {b : BlkV} {op a : Int} {xs : List Int}
theorem take_true (k : Int) (s : List Int) : (takeV k s b true).2.2 = true := by
 unfold takeV
 split
 ·rfl
 ·split <;> rfl
theorem tks_true : ∀ (l s : List Int), (tksV b l (s, true)).2 = true
 | [], s => rfl
 | k :: l, s => by
  unfold tksV
  rw [List.foldl_cons]
  show (tksV b l ((takeV k s b true).2.1, (takeV k s b true).2.2)).2 = true
  rw [take_true]
  exact tks_true l _
theorem pass1_true : (pass1 m loc st pre b true op a).bad = true := by
 unfold pass1
 split
 ·exact take_true _ _
 split
 ·show ((takeV _ _ b (takeV 0 _ b (takeV 127 st b true).2.2).2.2).2.2) = true
  rw [take_true, take_true, take_true]
 split
 ·show ((tksV b _ (st, true)).2 || _) = true
  rw [tks_true]; rfl
 split
 ·show (((tksV b _ (st, true)).2 || _) || _) = true
  rw [tks_true]; rfl
 ·exact tks_true _ _
theorem fpass_bad {bad : Bool} : (passV m loc st pre b bad op a).bad = (pass1 m loc st pre b bad op a).bad := by
 unfold passV
 split
 ·rfl
 split
 ·rfl
 ·rfl
theorem step_says (h : (stepV m loc st pre b false op a xs).1 = 0) : thereK m loc.length (pre.length + 1) op a xs = true ∧ allowedV m (pre ++ [b]) op a xs = true ∧ (pass1 m loc st pre b false op a).bad = false ∧ (stepV m loc st pre b false op a xs).2 = passV m loc st pre b false op a := by
 unfold stepV at h ⊢
 split at h
 ·exact absurd h (by show ¬ (8 : Int) = 0; decide)
 rename_i h1
 split at h
 ·exact absurd h (by show ¬ (9 : Int) = 0; decide)
 rename_i h2
 split at h
 ·exact absurd h (by show ¬ (10 : Int) = 0; decide)
 rename_i h3
 rw [fpass_bad] at h3
 have ha : allowedV m (pre ++ [b]) op a xs = true := by
  cases e : allowedV m (pre ++ [b]) op a xs with
  | true => rfl
  | false =>
   rw [e] at h3
   exact absurd pass1_true h3
 rw [ha] at h3 ⊢
 have h4 : (pass1 m loc st pre b false op a).bad = false := by simpa using h3
 refine ⟨by simpa using h1, rfl, h4, ?_⟩
 rw [if_neg h1, if_neg h2, if_neg (by show ¬ (passV m loc st pre b false op a).bad = true; rw [fpass_bad, h4]; decide)]
 rfl
theorem ops_open (ho : isO op) : (passV m loc st pre b false op a).ops = pre ++ [b] ++ [⟨op, ksOf a, (pass1 m loc st pre b false op a).st.length, false⟩] ∧ (passV m loc st pre b false op a).st = (pass1 m loc st pre b false op a).st := by
 unfold passV
 rw [if_pos (show op = 2 ∨ op = 3 ∨ op = 4 from ho)]
 unfold isO at ho
 refine ⟨?_, rfl⟩
 unfold pass1
 rw [if_neg (by omega), if_neg (by omega), if_neg (by omega), if_neg (by omega)]
theorem ops_other (ho : ¬ isO op) (h5 : op ≠ 5) (h11 : op ≠ 11) : ∃ d, (passV m loc st pre b false op a).ops = pre ++ [{ b with dead := d }] := by
 have e : (pass1 m loc st pre b false op a).ops = pre ++ [b] := by
  unfold pass1
  split
  ·rfl
  split
  ·rfl
  first | rfl | (rw [if_neg h5, if_neg h11])
 unfold passV
 rw [if_neg (show ¬ (op = 2 ∨ op = 3 ∨ op = 4) from ho)]
 split
 ·exact ⟨true, rfl⟩
 ·exact ⟨b.dead, e⟩
end
structure Well (m : ModD) (loc : List Int) (L : List InsD) (T : Nat → TrkV) (ks : List Int) : Prop where
 first : T 0 = ⟨[], [⟨2, ks, 0, false⟩], false⟩
 step : ∀ i, i < L.length → ∃ st pre b, T i = ⟨st, pre ++ [b], false⟩ ∧ (T i).ok i ∧ (stepV m loc st pre b false (L[i]!).op (L[i]!).A (L[i]!).xs).1 = 0 ∧ T (i + 1) = (stepV m loc st pre b false (L[i]!).op (L[i]!).A (L[i]!).xs).2 ∧ chkD (L[i]!) = 0
theorem well_of {m : ModD} {loc : List Int} {L : List InsD} {ks : List Int} (hn : nChk L = 0) (hk : ks.length ≤ 10) (hm : ∀ d ∈ m.types, d.r.xs.length ≤ 10) (hz : (runV m loc L 0 ⟨[], [⟨2, ks, 0, false⟩], false⟩).2 = 0) : Well m loc L (fun i => stV m loc (L.take i) ⟨[], [⟨2, ks, 0, false⟩], false⟩) ks := by
 obtain ⟨R, hR⟩ : ∃ R, R = runV m loc L 0 ⟨[], [⟨2, ks, 0, false⟩], false⟩ := ⟨_, rfl⟩
 rw [← hR] at hz
 have key : ∀ i, i ≤ L.length → RunI m loc L R i (stV m loc (L.take i) ⟨[], [⟨2, ks, 0, false⟩], false⟩) := by
  intro i
  induction i with
  | zero => intro _; rw [hR]; exact RunI.first hn hk
  | succ i ih =>
   intro hi
   have h := ih (by omega)
   obtain ⟨hc, pre, b, hops, _⟩ := h.here (show i < L.length by omega)
   have hbad := h.bad
   rw [List.take_succ_eq_append_getElem (by omega), stV_snoc]
   have hrun := h.run
   rw [List.drop_eq_getElem_cons (show i < L.length by omega)] at hrun
   rcases hT : stV m loc (L.take i) ⟨[], [⟨2, ks, 0, false⟩], false⟩ with ⟨st, ops, bad⟩
   rw [hT] at h hops hbad hrun
   dsimp only at hops hbad
   subst hops
   subst hbad
   have hE : (stepV m loc st pre b false (L[i]).op (L[i]).A (L[i]).xs).1 = 0 := by
    by_cases e : (nextV m loc ⟨st, pre ++ [b], false⟩ L[i]).1 = 0
    ·rw [nextV_eq] at e; exact e
    ·unfold runV at hrun
     rw [if_neg e] at hrun
     rw [hrun] at hz
     exact absurd hz e
   rw [nextV_eq]
   exact h.next hm (by omega) hE
 refine ⟨rfl, fun i hi => ?_⟩
 have h := key i (by omega)
 obtain ⟨hc, pre, b, hops, _⟩ := h.here hi
 have hbad := h.bad
 have hok := h.ok
 have hrun := h.run
 rw [List.drop_eq_getElem_cons hi] at hrun
 have hs : stV m loc (L.take (i + 1)) ⟨[], [⟨2, ks, 0, false⟩], false⟩ = (nextV m loc (stV m loc (L.take i) ⟨[], [⟨2, ks, 0, false⟩], false⟩) L[i]).2 := by
  rw [List.take_succ_eq_append_getElem hi, stV_snoc]
 rw [hs, getElem!_pos L i hi]
 rcases hT : stV m loc (L.take i) ⟨[], [⟨2, ks, 0, false⟩], false⟩ with ⟨st, ops, bad⟩
 rw [hT] at hops hbad hrun hok
 dsimp only at hops hbad
 subst hops
 subst hbad
 refine ⟨st, pre, b, rfl, hok, ?_, by rw [nextV_eq], hc⟩
 by_cases e : (nextV m loc ⟨st, pre ++ [b], false⟩ L[i]).1 = 0
 ·rw [nextV_eq] at e; exact e
 ·unfold runV at hrun
  rw [if_neg e] at hrun
  rw [hrun] at hz
  exact absurd hz e
end Go.Proofs.YtlfihndbnaaodaaGreatDoor
namespace Go.Proofs.YtlfihndbnaaodaaGreatDoor
open Go.RowKit
set_option linter.unusedVariables false
theorem opt_app {α : Type} {A : List α} {x y : α} {j : Nat} (h : (A ++ [x])[j]? = some y) : (j < A.length ∧ A[j]? = some y) ∨ (j = A.length ∧ y = x) := by
 rcases Nat.lt_or_ge j A.length with h1 | h1
 ·rw [List.getElem?_append_left h1] at h
  exact Or.inl ⟨h1, h⟩
 ·rw [List.getElem?_append_right h1] at h
  rcases Nat.eq_or_lt_of_le h1 with e | e
  ·rw [← e, Nat.sub_self] at h
   exact Or.inr ⟨e.symm, by simpa using h.symm⟩
  ·rw [List.getElem?_eq_none (by simp; omega)] at h
   cases h
theorem opt_lt {α : Type} {A : List α} {y : α} {j : Nat} (h : A[j]? = some y) : j < A.length := (List.getElem?_eq_some_iff.1 h).1
theorem opAt_bang {L : List InsD} {i : Nat} (h : i < L.length) : opAt L i = (L[i]!).op := by rw [opAt_get L i h, getElem!_pos L i h]
structure InvF (L : List InsD) (T : Nat → TrkV) (ks : List Int) (i : Nat) : Prop where
 len : (T i).ops.length = (plc L i).length + 1
 head : ∃ b0, (T i).ops[0]? = some b0 ∧ b0.base = 0 ∧ b0.ks = ks ∧ b0.op ≠ 3
 blk : ∀ j p, (plc L i)[j]? = some p → p < i ∧ isO (opAt L p) ∧ plc L p = (plc L i).take j ∧ (T p).ops = (T i).ops.take (j + 1) ∧ ∃ c, (T i).ops[j + 1]? = some c ∧ c.base = (T (p + 1)).st.length ∧ c.ks = ksOf (L[p]!).A ∧ (c.op = opAt L p ∨ (c.op = 5 ∧ opAt L p = 4 ∧ ∃ t, p < t ∧ t < i ∧ opAt L t = 5 ∧ plc L t = plc L p ++ [p]))
section
variable {m : ModD} {loc : List Int} {L : List InsD} {T : Nat → TrkV} {ks : List Int}
theorem inv_same {i : Nat} {pre : List BlkV} {b b' : BlkV} (h : InvF L T ks i) (e : (T i).ops = pre ++ [b]) (e' : (T (i + 1)).ops = pre ++ [b']) (hp : plc L (i + 1) = plc L i) (h1 : b'.base = b.base) (h2 : b'.ks = b.ks) (h3 : b'.op = b.op ∨ (b'.op = 5 ∧ opAt L i = 5 ∧ ∃ p, opAt L p = 4 ∧ p < i ∧ plc L i = plc L p ++ [p])) : InvF L T ks (i + 1) := by
 have hl := h.len
 rw [e, List.length_append, List.length_singleton] at hl
 refine ⟨by rw [e', hp, List.length_append, List.length_singleton]; omega, ?_, fun j p hj => ?_⟩
 ·obtain ⟨b0, q1, q2, q3, q4⟩ := h.head
  rw [e] at q1
  rw [e']
  rcases opt_app q1 with ⟨k1, k2⟩ | ⟨k1, k2⟩
  ·exact ⟨b0, by rw [List.getElem?_append_left k1]; exact k2, q2, q3, q4⟩
  ·subst k2
   refine ⟨b', by rw [List.length_eq_zero_iff.1 k1.symm]; rfl, by rw [h1]; exact q2, by rw [h2]; exact q3, ?_⟩
   rcases h3 with h3 | h3
   ·rw [h3]; exact q4
   ·rw [h3.1]; decide
 ·rw [hp] at hj ⊢
  obtain ⟨k1, k2, k3, k4, c, c1, c2, c3, c4⟩ := h.blk j p hj
  have hjl := opt_lt hj
  have ht : ∀ z : BlkV, (pre ++ [z]).take (j + 1) = pre.take (j + 1) := fun z => List.take_append_of_le_length (by omega)
  refine ⟨by omega, k2, k3, by rw [e', ht, k4, e, ht], ?_⟩
  rw [e] at c1
  rw [e']
  rcases opt_app c1 with ⟨d1, d2⟩ | ⟨d1, d2⟩
  ·refine ⟨c, by rw [List.getElem?_append_left d1]; exact d2, c2, c3, c4.imp id fun ⟨a1, a2, t, a3, a4, a5⟩ => ⟨a1, a2, t, a3, by omega, a5⟩⟩
  ·subst d2
   refine ⟨b', by rw [d1]; simp, by rw [h1]; exact c2, by rw [h2]; exact c3, ?_⟩
   rcases h3 with h3 | ⟨h3, h5, p', q1, q2, q3⟩
   ·rw [h3]
    exact c4.imp id fun ⟨a1, a2, t, a3, a4, a5⟩ => ⟨a1, a2, t, a3, by omega, a5⟩
   ·have hpp : p = p' := by
     rw [q3] at hj
     rcases opt_app hj with ⟨z, _⟩ | ⟨_, z⟩
     ·rw [q3] at hl; simp at hl; omega
     ·exact z
    subst hpp
    exact Or.inr ⟨h3, q1, i, q2, by omega, h5, q3⟩
theorem inv_all (hw : Well m loc L T ks) (hn : nChk L = 0) : ∀ i, i < L.length → InvF L T ks i
 | 0, _ => by
  refine ⟨by rw [hw.first]; rfl, ⟨⟨2, ks, 0, false⟩, by rw [hw.first]; rfl, rfl, rfl, by show ¬ (2 : Int) = 3; decide⟩, fun j p hj => by cases hj⟩
 | i + 1, hi => by
  have ih := inv_all hw hn i (by omega)
  obtain ⟨st, pre, b, e, hok, hz, hs, hc⟩ := hw.step i (by omega)
  obtain ⟨_, _, _, hp⟩ := step_says hz
  rw [hp, ← opAt_bang (show i < L.length by omega)] at hs
  have he : (T i).ops = pre ++ [b] := by rw [e]
  have hl := ih.len
  rw [he, List.length_append, List.length_singleton] at hl
  by_cases ho : isO (opAt L i)
  ·obtain ⟨o1, o2⟩ := ops_open (m := m) (loc := loc) (st := st) (pre := pre) (b := b) (a := (L[i]!).A) ho
   have e' : (T (i + 1)).ops = (T i).ops ++ [⟨opAt L i, ksOf (L[i]!).A, (T (i + 1)).st.length, false⟩] := by rw [he, hs, o1, o2]
   have hpl : plc L (i + 1) = plc L i ++ [i] := plc_open ho
   refine ⟨by rw [e', hpl, List.length_append, List.length_append, ih.len]; rfl, ?_, fun j p hj => ?_⟩
   ·obtain ⟨b0, q1, q2⟩ := ih.head
    exact ⟨b0, by rw [e', List.getElem?_append_left (opt_lt q1)]; exact q1, q2⟩
   ·rw [hpl] at hj ⊢
    rcases opt_app hj with ⟨j1, j2⟩ | ⟨j1, j2⟩
    ·obtain ⟨k1, k2, k3, k4, c, c1, c2, c3, c4⟩ := ih.blk j p j2
     refine ⟨by omega, k2, by rw [List.take_append_of_le_length (by omega)]; exact k3, by rw [e', List.take_append_of_le_length (by rw [ih.len]; omega)]; exact k4, c, by rw [e', List.getElem?_append_left (opt_lt c1)]; exact c1, c2, c3, c4.imp id fun ⟨a1, a2, t, a3, a4, a5⟩ => ⟨a1, a2, t, a3, by omega, a5⟩⟩
    ·subst j2
     subst j1
     exact ⟨by omega, ho, by rw [List.take_append_of_le_length (Nat.le_refl _), List.take_length], by rw [e', ← ih.len, List.take_append_of_le_length (Nat.le_refl _), List.take_length], _, by rw [e', ← ih.len, List.getElem?_append_right (Nat.le_refl _), Nat.sub_self]; rfl, rfl, rfl, Or.inl rfl⟩
  ·by_cases h11 : opAt L i = 11
   ·have e' : (T (i + 1)).ops = pre := by rw [hs, h11]; rfl
    have hpl : plc L (i + 1) = (plc L i).dropLast := plc_end h11
    have hne : 0 < pre.length := by
     obtain ⟨st2, pre2, b2, e2, _⟩ := hw.step (i + 1) hi
     rw [← e', e2]
     simp
    refine ⟨by rw [e', hpl, List.length_dropLast]; omega, ?_, fun j p hj => ?_⟩
    ·obtain ⟨b0, q1, q2⟩ := ih.head
     rw [he, List.getElem?_append_left hne] at q1
     exact ⟨b0, by rw [e']; exact q1, q2⟩
    ·rw [hpl] at hj ⊢
     have hjl := opt_lt hj
     rw [List.length_dropLast] at hjl
     have hj2 : (plc L i)[j]? = some p := by rw [List.getElem?_dropLast, if_pos hjl] at hj; exact hj
     obtain ⟨k1, k2, k3, k4, c, c1, c2, c3, c4⟩ := ih.blk j p hj2
     refine ⟨by omega, k2, ?_, ?_, c, ?_, c2, c3, c4.imp id fun ⟨a1, a2, t, a3, a4, a5⟩ => ⟨a1, a2, t, a3, by omega, a5⟩⟩
     ·rw [k3, List.dropLast_eq_take, List.take_take]
      congr 1
      omega
     ·rw [k4, e', he, List.take_append_of_le_length (by omega)]
     ·rw [he, List.getElem?_append_left (by omega)] at c1
      rw [e']
      exact c1
   ·have hpl : plc L (i + 1) = plc L i := plc_keep ho h11
    by_cases h5 : opAt L i = 5
    ·have e' : (T (i + 1)).ops = pre ++ [{ b with op := 5, dead := false }] := by rw [hs, h5]; rfl
     exact inv_same ih he e' hpl rfl rfl (Or.inr ⟨rfl, h5, (blocks_good hn).2.2.2.2 i (by omega) h5⟩)
    ·obtain ⟨d, hd⟩ := ops_other (m := m) (loc := loc) (st := st) (pre := pre) (b := b) (a := (L[i]!).A) ho h5 h11
     have e' : (T (i + 1)).ops = pre ++ [{ b with dead := d }] := by rw [hs, hd]
     exact inv_same ih he e' hpl rfl rfl (Or.inl rfl)
end
end Go.Proofs.YtlfihndbnaaodaaGreatDoor
namespace Go.Proofs.YtlfihndbnaaodaaGreatDoor
open Go.RowKit
set_option linter.unusedVariables false
def flatQ (L : List InsD) (V : List (Bool × List Int)) (E S : List Int) : FQ := ⟨L, V.map fun s => ⟨s.1, ⟨none, s.2.length, 0, s.2⟩⟩, E, S, 0, 0, 0, 0, 0, 0, 0, 0⟩
def shpL (T : Nat → TrkV) (n : Nat) : List (Bool × List Int) := (List.range n).map fun i => shpV (T i)
theorem shpL_at (T : Nat → TrkV) (L : List InsD) (E S : List Int) (i : Nat) (h : i < L.length) : ((flatQ L (shpL T L.length) E S).D[i]!).dead = (shpV (T i)).1 ∧ ((flatQ L (shpL T L.length) E S).D[i]!).k.n = (shpV (T i)).2.length := by
 have e : (flatQ L (shpL T L.length) E S).D[i]! = ⟨(shpV (T i)).1, ⟨none, (shpV (T i)).2.length, 0, (shpV (T i)).2⟩⟩ := by
  unfold flatQ shpL
  rw [getElem!_pos _ i (by simpa using h)]
  simp
 rw [e]
 exact ⟨rfl, rfl⟩
section
variable {m : ModD} {loc : List Int} {L : List InsD} {T : Nat → TrkV} {ks : List Int}
theorem open_plc (hw : Well m loc L T ks) (hn : nChk L = 0) (J0 : JmpD) (V : List (Bool × List Int)) (E S : List Int) : ∀ i, i < L.length → (flatQ L V E S).open J0 i = J0 :: (plc L i).map (flatQ L V E S).to
 | 0, _ => rfl
 | i + 1, hi => by
  have ih := open_plc hw hn J0 V E S i (by omega)
  have hop := opAt_bang (show i < L.length by omega)
  show (if opens (L[i]!).op = true then (flatQ L V E S).open J0 i ++ [(flatQ L V E S).to i] else if (L[i]!).op = 11 then ((flatQ L V E S).open J0 i).dropLast else (flatQ L V E S).open J0 i) = _
  rw [← hop, ih, show plc L (i + 1) = (if opens (opAt L i) = true then plc L i ++ [i] else if opAt L i = 11 then (plc L i).dropLast else plc L i) from rfl]
  split
  ·simp
  ·split
   ·rename_i h11
    have h1 := inv_all hw hn (i + 1) hi
    have h2 := inv_all hw hn i (by omega)
    obtain ⟨st, pre, b, e, _, hz, hs, _⟩ := hw.step i (by omega)
    obtain ⟨st2, pre2, b2, e2, _⟩ := hw.step (i + 1) hi
    obtain ⟨_, _, _, hp⟩ := step_says hz
    rw [hp, ← hop, h11] at hs
    have e3 : (T (i + 1)).ops = pre := by rw [hs]; rfl
    have hl := h2.len
    rw [e] at hl
    rw [e2] at e3
    have : plc L i ≠ [] := fun e4 => by
     rw [e4] at hl
     simp at hl
     rw [← e3] at hl
     simp at hl
    rw [List.dropLast_cons_of_ne_nil (by simpa using this), List.map_dropLast]
   ·rfl
end
end Go.Proofs.YtlfihndbnaaodaaGreatDoor
namespace Go.Proofs.YtlfihndbnaaodaaGreatDoor
open Go.RowKit
set_option linter.unusedVariables false
section
variable {m : ModD} {loc : List Int} {L : List InsD} {T : Nat → TrkV} {ks : List Int}
def bodyQ (L : List InsD) (T : Nat → TrkV) : FQ := flatQ L (shpL T L.length) (matchOf L).2.1 (matchOf L).2.2
def outJ (L : List InsD) (ks : List Int) : JmpD := ⟨(L.length : Int) - 1, (ks.length : Int), 0⟩
end
end Go.Proofs.YtlfihndbnaaodaaGreatDoor
namespace Go.Proofs.YtlfihndbnaaodaaGreatDoor
open Go.RowKit
set_option linter.unusedVariables false
theorem chk_few {d : InsD} (h : chkD d = 0) : d.n ≤ 16 := by
 unfold chkD chkV at h
 split at h
 ·exact absurd h (by decide)
 split at h
 ·exact absurd h (by decide)
 ·omega
structure FQ.same (q q' : FQ) : Prop where
 l : q.L = q'.L
 e : q.E = q'.E
 s : q.S = q'.S
 d : ∀ i, i < q.L.length → (q.D[i]!).dead = (q'.D[i]!).dead ∧ (q.D[i]!).k.n = (q'.D[i]!).k.n
section
variable {q q' : FQ}
theorem FQ.same.hgt (h : q.same q') (i : Nat) (hi : i < q.L.length) : q.hgt i = q'.hgt i := by
 unfold FQ.hgt
 rw [h.l, (h.d i hi).2]
theorem FQ.same.to (h : q.same q') (i : Nat) (hi : i < q.L.length) : q.to i = q'.to i := by
 unfold FQ.to
 rw [h.l, h.e, h.hgt i hi]
theorem FQ.same.open (h : q.same q') (J0 : JmpD) : ∀ i, i ≤ q.L.length → q.open J0 i = q'.open J0 i
 | 0, _ => rfl
 | i + 1, hi => by
  have ih := h.open J0 i (by omega)
  unfold FQ.open
  rw [h.l, h.to i (by omega), ih]
theorem FQ.same.spot (h : q.same q') (J0 : JmpD) (i : Nat) (hi : i < q.L.length) : q.spot J0 i = q'.spot J0 i := by
 unfold FQ.spot
 rw [(h.d i hi).1, h.open J0 i (by omega)]
 unfold FQ.ways FQ.past
 rw [h.l, h.e, h.s, h.hgt i hi]
theorem FQ.same.fine (h : q.same q') {J : List JmpD} {i : Nat} (f : q'.fine J i) : q.fine J i := by
 obtain ⟨a, b, c, d⟩ := f
 rw [← h.l] at a b d
 rw [← h.s] at d
 exact ⟨a, b, c, d⟩
end
section
variable {m : ModD} {loc : List Int} {L : List InsD} {T : Nat → TrkV} {ks : List Int}
theorem fine_all (hw : Well m loc L T ks) (hn : nChk L = 0) (w0 : World) (hok : ∀ d ∈ L, d.ok w0) (i : Nat) (hi : i < L.length) : (bodyQ L T).fine ((bodyQ L T).open (outJ L ks) i) i ∧ (L[i]!).n ≤ 1000 ∧ (opens (L[i]!).op = true → 0 ≤ (L[i]!).A ∧ (L[i]!).A ≤ 255) := by
 obtain ⟨st, pre, b, e, hok', hz, hs, hc⟩ := hw.step i hi
 obtain ⟨hth, hal, hb, _⟩ := step_says hz
 have hv := inv_all hw hn i hi
 have hJL : ((bodyQ L T).open (outJ L ks) i).length = pre.length + 1 := by
  rw [show (bodyQ L T).open (outJ L ks) i = _ from open_plc hw hn _ _ _ _ i hi, List.length_cons, List.length_map, ← hv.len, e, List.length_append, List.length_singleton]
 have hd : (L[i]!).ok w0 := by
  rw [getElem!_pos L i hi]
  exact hok _ (List.getElem_mem hi)
 obtain ⟨y1, y2, y3⟩ := chk_says hd hc
 refine ⟨⟨fun c => ?_, fun c x hx => ?_, by omega, fun c => ?_⟩, by have := chk_few hc; omega, fun c => ?_⟩
 ·have c : (L[i]!).op = 12 ∨ (L[i]!).op = 13 ∨ (L[i]!).op = 14 := c
  unfold thereK at hth
  rw [if_pos c] at hth
  simp only [Bool.and_eq_true, decide_eq_true_eq] at hth
  exact ⟨y1 (by omega), by have := hth.1; rw [hJL]; exact this⟩
 ·have c : (L[i]!).op = 14 := c
  unfold thereK at hth
  rw [if_pos (by omega)] at hth
  simp only [Bool.and_eq_true, decide_eq_true_eq, Bool.not_eq_true', List.any_eq_false] at hth
  have := hth.2 x hx
  refine ⟨y2 x hx, ?_⟩
  rw [hJL]
  simp at this
  omega
 ·have c : (L[i]!).op = 4 := c
  rw [← opAt_bang hi] at c
  obtain ⟨_, _, _, g4, _⟩ := blocks_good hn
  obtain ⟨e', ⟨E1, E2, E3, E4, E5, E6⟩, he⟩ := g4 i hi (isO_4 c)
  have hl := (nChk_ok L hn).1
  rcases E6 c with ⟨s1, _⟩ | ⟨t, s1, s2, s3, _⟩
  ·rw [show (bodyQ L T).S.getD i 0 = -1 from s1]; decide
  ·rw [show (bodyQ L T).S.getD i 0 = (t : Int) from s1]
   clear E6
   exact ⟨by omega, by omega⟩
 ·have := (opens_iff _).1 c
  unfold isO at this
  exact ⟨y1 (by omega), y3 this⟩
end
end Go.Proofs.YtlfihndbnaaodaaGreatDoor
namespace Go.Proofs.YtlfihndbnaaodaaGreatDoor
open Go.RowKit
set_option linter.unusedVariables false
section
variable {m : ModD} {loc : List Int} {L : List InsD} {T : Nat → TrkV} {ks : List Int}
def NoIn (L : List InsD) (k : Nat) (j : JmpD) : Prop := 0 ≤ j.a ∧ j.a < (L.length : Int) ∧ ∀ b ∈ plc L j.a.toNat, b ∈ plc L k ∨ b = k
theorem nin_open (hw : Well m loc L T ks) (hn : nChk L = 0) (k : Nat) (hk : k < L.length) (x : Nat) (hx : x ≤ (plc L k).length) : NoIn L k (((bodyQ L T).open (outJ L ks) k)[x]!) := by
 have hi := inv_all hw hn k hk
 obtain ⟨g1, g2, g3, g4, g5⟩ := blocks_good hn
 rw [show (bodyQ L T).open (outJ L ks) k = _ from open_plc hw hn _ _ _ _ k hk]
 cases x with
 | zero =>
  refine ⟨by show 0 ≤ (L.length : Int) - 1; omega, by show (L.length : Int) - 1 < _; omega, fun b hb => ?_⟩
  have hb : b ∈ plc L ((L.length : Int) - 1).toNat := hb
  rw [show ((L.length : Int) - 1).toNat = L.length - 1 by omega, g2] at hb
  cases hb
 | succ j =>
  obtain ⟨p, hj⟩ : ∃ p, (plc L k)[j]? = some p := ⟨_, List.getElem?_eq_getElem hx⟩
  obtain ⟨k1, k2, k3, k4, -⟩ := hi.blk j p hj
  have hpk : p ∈ plc L k := List.mem_of_getElem? hj
  have hp : p < L.length := by omega
  have e : (outJ L ks :: (plc L k).map (bodyQ L T).to)[j + 1]! = (bodyQ L T).to p := by
   simp [List.getElem!_eq_getElem?_getD, hj]
  rw [show (flatQ L (shpL T L.length) (matchOf L).2.1 (matchOf L).2.2) = bodyQ L T from rfl, e]
  have hsub : ∀ b ∈ plc L p, b ∈ plc L k := fun b hb => List.mem_of_mem_take (by rw [← k3]; exact hb)
  unfold FQ.to
  by_cases h3 : ((bodyQ L T).L[p]!).op = 3
  ·rw [if_pos h3]
   refine ⟨by show 0 ≤ (p : Int); omega, by show (p : Int) < _; omega, fun b hb => Or.inl (hsub b ?_)⟩
   have hb : b ∈ plc L (p : Int).toNat := hb
   rw [Int.toNat_natCast] at hb
   exact hb
  ·rw [if_neg h3]
   obtain ⟨e', ⟨E1, E2, E3, E4, E5, -⟩, he'⟩ := g4 p hp k2
   have hE : (bodyQ L T).E.getD p 0 = (e' : Int) := E1
   rw [hE]
   refine ⟨by show 0 ≤ (e' : Int); omega, by show (e' : Int) < _; omega, fun b hb => Or.inl ?_⟩
   have hb : b ∈ plc L (e' : Int).toNat := hb
   rw [Int.toNat_natCast, E4] at hb
   rcases List.mem_append.1 hb with hb | hb
   ·exact hsub b hb
   ·rw [List.mem_singleton.1 hb]; exact hpk
theorem nin_past (hn : nChk L = 0) (k : Nat) (hk : k < L.length) (h4 : opAt L k = 4) : NoIn L k ((bodyQ L T).past k) := by
 obtain ⟨g1, g2, g3, g4, g5⟩ := blocks_good hn
 obtain ⟨e, ⟨E1, E2, E3, E4, E5, E6⟩, he⟩ := g4 k hk (isO_4 h4)
 have H6 : Hid (type_of% (E6 h4)) := E6 h4
 clear E6
 have hE : (bodyQ L T).E.getD k 0 = (e : Int) := E1
 have fin : ∀ x : Nat, plc L x = plc L k ++ [k] → ∀ b ∈ plc L x, b ∈ plc L k ∨ b = k := fun x hx b hb => by
  rw [hx] at hb
  rcases List.mem_append.1 hb with hb | hb
  ·exact Or.inl hb
  ·exact Or.inr (List.mem_singleton.1 hb)
 unfold FQ.past
 rcases H6.out with ⟨s1, s2⟩ | ⟨t, s1, s2, s3, s4, s5⟩
 ·rw [if_pos (show (bodyQ L T).S.getD k 0 = -1 from s1), hE]
  refine ⟨by show 0 ≤ (e : Int); omega, by show (e : Int) < _; omega, ?_⟩
  show ∀ b ∈ plc L (e : Int).toNat, _
  rw [Int.toNat_natCast]
  exact fin e E4
 ·have hS : (bodyQ L T).S.getD k 0 = (t : Int) := s1
  rw [if_neg (show ¬ (bodyQ L T).S.getD k 0 = -1 by rw [hS]; omega), hS]
  refine ⟨by show 0 ≤ (t : Int) + 1; omega, by show (t : Int) + 1 < _; omega, ?_⟩
  show ∀ b ∈ plc L ((t : Int) + 1).toNat, _
  rw [show ((t : Int) + 1).toNat = t + 1 by omega]
  exact fin (t + 1) (by rw [plc_keep (by rw [s4]; unfold isO; omega) (by rw [s4]; decide)]; exact s5)
theorem ways_nin (hw : Well m loc L T ks) (hn : nChk L = 0) (w0 : World) (hok : ∀ d ∈ L, d.ok w0) (k : Nat) (hk : k < L.length) (j : JmpD) (hj : j ∈ (bodyQ L T).spot (outJ L ks) k) : NoIn L k j := by
 obtain ⟨⟨f1, f2, f3, f4⟩, _, _⟩ := fine_all hw hn w0 hok k hk
 have hJL : ((bodyQ L T).open (outJ L ks) k).length = (plc L k).length + 1 := by
  rw [show (bodyQ L T).open (outJ L ks) k = _ from open_plc hw hn _ _ _ _ k hk, List.length_cons, List.length_map]
 have far : ∀ f : Int, 0 ≤ f → f < (((bodyQ L T).open (outJ L ks) k).length : Int) → NoIn L k (outV ((bodyQ L T).open (outJ L ks) k) f) := fun f h0 h1 => by
  unfold outV
  exact nin_open hw hn k hk _ (by omega)
 unfold FQ.spot at hj
 split at hj
 ·cases hj
 unfold FQ.ways at hj
 split at hj
 ·rename_i c
  obtain rfl := List.mem_singleton.1 hj
  have := f1 (by omega)
  exact far _ this.1 this.2
 split at hj
 ·rename_i c
  obtain ⟨x, hx, rfl⟩ := List.mem_map.1 hj
  rcases List.mem_append.1 hx with hx | hx
  ·have := f2 c x hx
   exact far _ this.1 this.2
  ·obtain rfl := List.mem_singleton.1 hx
   have := f1 (by omega)
   exact far _ this.1 this.2
 split at hj
 ·obtain rfl := List.mem_singleton.1 hj
  exact nin_open hw hn k hk 0 (Nat.zero_le _)
 split at hj
 ·rename_i c
  obtain rfl := List.mem_singleton.1 hj
  exact nin_past hn k hk (by rw [opAt_bang hk]; exact c)
 split at hj
 ·obtain rfl := List.mem_singleton.1 hj
  exact far 0 (by omega) (by omega)
 ·cases hj
theorem nin_no (hn : nChk L = 0) (k : Nat) (j : JmpD) (ho : NoIn L k j) (b : Nat) (hb : b < L.length) (hop : isO (opAt L b)) (h1 : (b : Int) < j.a) (h2 : j.a ≤ (matchOf L).2.1.getD b 0) : ¬ (k : Int) < (b : Int) ∧ ¬ (matchOf L).2.1.getD b 0 < (k : Int) := by
 obtain ⟨o1, o2, o3⟩ := ho
 obtain ⟨e, g, he⟩ := (blocks_good hn).2.2.2.1 b hb hop
 have hE := g.1
 rw [hE] at h2 ⊢
 have hm : b ∈ plc L j.a.toNat := g.iff.2 ⟨by omega, by omega⟩
 rcases o3 b hm with h | h
 ·have := g.iff.1 h
  omega
 ·have := g.2.1
  omega
end
end Go.Proofs.YtlfihndbnaaodaaGreatDoor
