/-
  How deep a body is, and how many blocks it has: plain mathematics.
-/
import Derived.Test.YtkceplamaocmmaaDoorGGrow
namespace Go.Proofs.YtkceplamaocmmaaDoor

/-- One instruction more: open, most, all. -/
def ndStep (op : Int) (q : Int × Int × Int) : Int × Int × Int :=
  let o1 := if 2 ≤ op ∧ op ≤ 4 then q.1 + 1 else q.1
  let a1 := if 2 ≤ op ∧ op ≤ 4 then q.2.2 + 1 else q.2.2
  let o2 := if op = 11 then o1 - 1 else o1
  (o2, max q.2.1 o2, a1)
def ndRun : List Int → Int × Int × Int → Int × Int × Int
  | [], q => q
  | op :: l, q => ndRun l (ndStep op q)
theorem ndRun_app : ∀ (l m : List Int) (q : Int × Int × Int), ndRun (l ++ m) q = ndRun m (ndRun l q)
  | [], _, _ => rfl
  | op :: l, m, q => by
    rw [List.cons_append, ndRun, ndRun]
    exact ndRun_app l m _
def opsOf (V : List V4) : List Int := V.map V4.op
theorem nd_open (op : Int) (h : isO op) (o m a : Int) : ndStep op (o, m, a) = (o + 1, max m (o + 1), a + 1) := by
  have h' : 2 ≤ op ∧ op ≤ 4 := by rcases h with h | h | h <;> omega
  unfold ndStep
  simp only
  rw [if_pos h', if_pos h', if_neg (by omega)]
theorem nd_end (o m a : Int) : ndStep 11 (o, m, a) = (o - 1, max m (o - 1), a) := by
  unfold ndStep
  simp
theorem nd_skip (op : Int) (h : ¬ isO op) (h11 : op ≠ 11) (o m a : Int) (hm : o ≤ m) : ndStep op (o, m, a) = (o, m, a) := by
  have h' : ¬ (2 ≤ op ∧ op ≤ 4) := fun hh => h (by unfold isO; omega)
  unfold ndStep
  simp only
  rw [if_neg h', if_neg h', if_neg h11, show max m o = m by omega]
/-- A piece that is made of parts: how deep, how many. -/
theorem seg_nd {L : List InsD} {E S : List Int} {i j d s : Nat} (h : Seg L E S i j d s) : ∀ o m a : Int, o ≤ m → ndRun (opsOf (segV L i j)) (o, m, a) = (o, max m (o + d), a + s) := by
  have one : ∀ p (hp : p < L.length), opsOf (segV L p (p + 1)) = [opAt L p] := fun p hp => by
    rw [segV_one L p hp]
    show [(L[p]).op] = _
    rw [opAt_get L p hp]
  have cat : ∀ x y z, x ≤ y → y ≤ z → opsOf (segV L x z) = opsOf (segV L x y) ++ opsOf (segV L y z) := fun x y z h1 h2 => by
    rw [← segV_cat L x y z h1 h2]
    unfold opsOf
    rw [List.map_append]
  induction h with
  | nil i h =>
    intro o m a hm
    rw [segV_nil]
    show (o, m, a) = _
    rw [show max m (o + ((0 : Nat) : Int)) = m by omega, show a + ((0 : Nat) : Int) = a by omega]
  | single i j d s h o5 _ o11 _ r ih =>
    intro o m a hm
    have hl := r.le
    rw [cat i (i + 1) j (by omega) (by omega), ndRun_app, one i (by omega)]
    show ndRun _ (ndStep _ _) = _
    rw [nd_skip _ o5 o11 o m a hm, ih o m a hm]
  | block i q j d1 s1 d s h hq oo oq _ r1 r ih1 ih =>
    intro o m a hm
    have hl := r.le
    have hO : isO (opAt L i) := by rcases oo with h | h; exact Or.inl h; exact Or.inr (Or.inl h)
    rw [cat i (i + 1) j (by omega) (by omega), ndRun_app, one i (by omega), cat (i + 1) q j (by omega) (by omega), ndRun_app, cat q (q + 1) j (by omega) (by omega), ndRun_app, one q (by omega), oq]
    show ndRun _ (ndStep 11 (ndRun _ (ndStep _ _))) = _
    rw [nd_open _ hO, ih1 (o + 1) _ _ (by omega), nd_end, ih _ _ _ (by omega)]
    simp only [Prod.mk.injEq]
    refine ⟨by omega, by omega, by omega⟩
  | ifN i q j d1 s1 d s h hq oo oq _ _ r1 r ih1 ih =>
    intro o m a hm
    have hl := r.le
    have hO : isO (opAt L i) := Or.inr (Or.inr oo)
    rw [cat i (i + 1) j (by omega) (by omega), ndRun_app, one i (by omega), cat (i + 1) q j (by omega) (by omega), ndRun_app, cat q (q + 1) j (by omega) (by omega), ndRun_app, one q (by omega), oq]
    show ndRun _ (ndStep 11 (ndRun _ (ndStep _ _))) = _
    rw [nd_open _ hO, ih1 (o + 1) _ _ (by omega), nd_end, ih _ _ _ (by omega)]
    simp only [Prod.mk.injEq]
    refine ⟨by omega, by omega, by omega⟩
  | ifE i t q j d1 s1 d2 s2 d s h ht hq oo ot oq _ _ r1 r2 r ih1 ih2 ih =>
    intro o m a hm
    have hl := r.le
    have hO : isO (opAt L i) := Or.inr (Or.inr oo)
    rw [cat i (i + 1) j (by omega) (by omega), ndRun_app, one i (by omega), cat (i + 1) t j (by omega) (by omega), ndRun_app, cat t (t + 1) j (by omega) (by omega), ndRun_app, one t (by omega), ot, cat (t + 1) q j (by omega) (by omega), ndRun_app, cat q (q + 1) j (by omega) (by omega), ndRun_app, one q (by omega), oq]
    show ndRun _ (ndStep 11 (ndRun _ (ndStep 5 (ndRun _ (ndStep _ _))))) = _
    rw [nd_open _ hO, ih1 (o + 1) _ _ (by omega), nd_skip 5 (by unfold isO; omega) (by omega) _ _ _ (by omega), ih2 _ _ _ (by omega), nd_end, ih _ _ _ (by omega)]
    simp only [Prod.mk.injEq]
    refine ⟨by omega, by omega, by omega⟩
/-- The whole body. -/
theorem body_nd (L : List InsD) (hc : nChk L = 0) {E S : List Int} {D Z : Nat} (h : Seg L E S 0 (L.length - 1) D Z) (o11 : opAt L (L.length - 1) = 11) (o m a : Int) (hm : o ≤ m) : ndRun (L.map InsD.op) (o, m, a) = (o - 1, max m (o + D), a + Z) := by
  obtain ⟨_, _, _, hpos⟩ := nChk_ok L hc
  have hl : L.length - 1 < L.length := by omega
  have e : L.map InsD.op = opsOf (segV L 0 (L.length - 1)) ++ [opAt L (L.length - 1)] := by
    have e1 : opsOf (segV L (L.length - 1) (L.length - 1 + 1)) = [opAt L (L.length - 1)] := by
      rw [segV_one L _ hl]
      show [(L[L.length - 1]).op] = _
      rw [opAt_get L _ hl]
    rw [← e1]
    unfold opsOf
    rw [← List.map_append, segV_cat L 0 (L.length - 1) (L.length - 1 + 1) (by omega) (by omega)]
    unfold segV
    rw [List.drop_zero, List.take_of_length_le (by omega), List.map_map]
    rfl
  rw [e, ndRun_app, seg_nd h o m a hm, o11]
  show ndStep 11 _ = _
  rw [nd_end]
  simp only [Prod.mk.injEq]
  refine ⟨trivial, by omega, trivial⟩

end Go.Proofs.YtkceplamaocmmaaDoor
