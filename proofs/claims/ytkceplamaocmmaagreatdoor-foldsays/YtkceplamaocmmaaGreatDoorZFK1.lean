/-
  Pieces of a body, and what may stand for them: plain mathematics.
-/
import Derived.Test.YtkceplamaocmmaaGreatDoorZPT
namespace Go.Proofs.YtkceplamaocmmaaGreatDoor
open Go.RowKit
set_option linter.unusedVariables false
theorem run_cat : ∀ (A B : List InsD) (bs : List Int) (en : Bool), nRun (A ++ B) bs en = if (nRun A bs en).1 = 0 then nRun B (nRun A bs en).2.1 (nRun A bs en).2.2 else nRun A bs en
  | [], B, bs, en => by
    rw [List.nil_append, show nRun [] bs en = (0, bs, en) from rfl, if_pos rfl]
  | x :: A, B, bs, en => by
    rw [List.cons_append, nRun, nRun]
    by_cases h0 : (nStep (chkD x) x.op bs en).1 = 0
    · rw [if_pos h0, if_pos h0]
      exact run_cat A B _ _
    · rw [if_neg h0, if_neg h0, if_neg h0]
theorem run_chk : ∀ (L : List InsD) (bs : List Int) (en : Bool), (nRun L bs en).1 = 0 → ∀ d ∈ L, chkD d = 0
  | [], _, _, _, d, hd => absurd hd (by simp)
  | x :: L, bs, en, h, d, hd => by
    rw [nRun] at h
    by_cases h0 : (nStep (chkD x) x.op bs en).1 = 0
    · rw [if_pos h0] at h
      rcases List.mem_cons.1 hd with rfl | hd
      · exact (nStep_ok _ _ _ _ h0).1
      · exact run_chk L _ _ h d hd
    · rw [if_neg h0] at h
      exact absurd h h0
theorem step_len (c op : Int) (bs : List Int) (en : Bool) (hb : bs.length ≤ 12) : (nStep c op bs en).2.1.length ≤ 12 := by
  unfold nStep
  split
  · exact hb
  split
  · exact hb
  split
  · split
    · exact hb
    · simp; omega
  split
  · split
    · rename_i h
      have : 0 < bs.length := by cases bs with | nil => cases h | cons => simp
      simp; omega
    · exact hb
  split
  · split
    · exact hb
    · simp at hb ⊢; omega
  · exact hb
theorem run_len : ∀ (A : List InsD) (bs : List Int) (en : Bool), bs.length ≤ 12 → (nRun A bs en).2.1.length ≤ 12
  | [], bs, en, hb => hb
  | x :: A, bs, en, hb => by
    rw [nRun]
    split
    · exact run_len A _ _ (step_len _ _ _ _ hb)
    · exact step_len _ _ _ _ hb
structure Pc (X : List InsD) (d s : Nat) : Prop where
  run : ∀ bs : List Int, bs.length + d ≤ 12 → nRun X bs false = (0, bs, false)
  deep : ∀ bs : List Int, bs.length ≤ 12 → 12 < bs.length + d → (nRun X bs false).1 = 7
  nd : ∀ o m a : Int, o ≤ m → ndRun (X.map InsD.op) (o, m, a) = (o, max m (o + d), a + s)
theorem Pc.nil : Pc [] 0 0 := ⟨fun _ _ => rfl, fun bs h1 h2 => by omega, fun o m a h => by
  show (o, m, a) = _
  rw [show max m (o + ((0 : Nat) : Int)) = m by omega, show a + ((0 : Nat) : Int) = a by omega]⟩
theorem Pc.app {X Y : List InsD} {d s d2 s2 : Nat} (h : Pc X d s) (h2 : Pc Y d2 s2) : Pc (X ++ Y) (max d d2) (s + s2) := by
  refine ⟨fun bs hb => ?_, fun bs hb hd => ?_, fun o m a hm => ?_⟩
  · rw [run_cat, h.run bs (by omega), if_pos rfl]
    exact h2.run bs (by omega)
  · rw [run_cat]
    by_cases e : bs.length + d ≤ 12
    · rw [h.run bs e, if_pos rfl]
      exact h2.deep bs hb (by omega)
    · have := h.deep bs hb (by omega)
      rw [if_neg (by rw [this]; decide)]
      exact this
  · rw [List.map_append, ndRun_app, h.nd o m a hm, h2.nd _ _ _ (by omega)]
    simp only [Prod.mk.injEq]
    refine ⟨trivial, by omega, by omega⟩
def Sk (d : InsD) : Prop := ¬ isO d.op ∧ d.op ≠ 5 ∧ d.op ≠ 11
theorem run_cons (x : InsD) (A : List InsD) (bs bs' : List Int) (en' : Bool) (hc : chkD x = 0) (h : nStep 0 x.op bs false = (0, bs', en')) : nRun (x :: A) bs false = nRun A bs' en' := by
  rw [nRun, hc, h, if_pos rfl]
theorem pst_open (op : Int) (ho : isO op) (bs : List Int) (h : bs.length ≠ 12) : nStep 0 op bs false = (0, bs ++ [op], false) := nStep_open op bs ho h
theorem pst_deep (op : Int) (ho : isO op) (bs : List Int) (h : bs.length = 12) : nStep 0 op bs false = (7, bs, false) := by
  unfold nStep
  rw [if_neg (by simp), if_neg (by simp), if_pos (show op = 2 ∨ op = 3 ∨ op = 4 from ho), if_pos h]
theorem pst_skip (op : Int) (ho : ¬ isO op) (o5 : op ≠ 5) (o11 : op ≠ 11) (bs : List Int) : nStep 0 op bs false = (0, bs, false) := by
  unfold nStep
  rw [if_neg (by simp), if_neg (by simp), if_neg (show ¬ (op = 2 ∨ op = 3 ∨ op = 4) from ho), if_neg o5, if_neg o11]
theorem pst_end (bs : List Int) (x : Int) : nStep 0 11 (bs ++ [x]) false = (0, bs, false) := by
  unfold nStep
  rw [if_neg (by simp), if_neg (by simp), if_neg (by omega), if_neg (by omega), if_pos rfl]
  cases bs with
  | nil => rfl
  | cons a b =>
    simp only [List.cons_append]
    rw [show a :: (b ++ [x]) = (a :: b) ++ [x] from rfl, List.dropLast_concat]
theorem pst_else (bs : List Int) : nStep 0 5 (bs ++ [4]) false = (0, bs ++ [5], false) := by
  unfold nStep
  rw [if_neg (by simp), if_neg (by simp), if_neg (by omega), if_pos rfl, List.getLast?_append]
  simp
theorem Pc.skip {x : InsD} (hc : chkD x = 0) (h : Sk x) : Pc [x] 0 0 := by
  refine ⟨fun bs _ => ?_, fun bs h1 h2 => by omega, fun o m a hm => ?_⟩
  · rw [run_cons x [] bs bs false hc (pst_skip _ h.1 h.2.1 h.2.2 bs)]
    rfl
  · show ndStep x.op (o, m, a) = _
    rw [nd_skip _ h.1 h.2.2 o m a hm, show max m (o + ((0 : Nat) : Int)) = m by omega, show a + ((0 : Nat) : Int) = a by omega]
theorem Pc.skips : ∀ {X : List InsD}, (∀ x ∈ X, chkD x = 0 ∧ Sk x) → Pc X 0 0
  | [], _ => Pc.nil
  | x :: X, h => by
    have h1 := h x (by simp)
    exact (Pc.skip h1.1 h1.2).app (Pc.skips fun y hy => h y (by simp [hy]))
theorem Pc.block {x e : InsD} {X : List InsD} {d s : Nat} (hx : chkD x = 0) (he : chkD e = 0) (ho : isO x.op) (oe : e.op = 11) (h : Pc X d s) : Pc (x :: (X ++ [e])) (1 + d) (1 + s) := by
  refine ⟨fun bs hb => ?_, fun bs hb hd => ?_, fun o m a hm => ?_⟩
  · rw [run_cons x _ bs (bs ++ [x.op]) false hx (pst_open _ ho bs (by omega)), run_cat, h.run _ (by simp; omega), if_pos rfl, run_cons e [] _ bs false he (by rw [oe]; exact pst_end bs _)]
    rfl
  · by_cases hb2 : bs.length = 12
    · rw [nRun, hx, pst_deep _ ho bs hb2, if_neg (show ¬ (7 : Int) = 0 by decide)]
    · rw [run_cons x _ bs (bs ++ [x.op]) false hx (pst_open _ ho bs hb2), run_cat]
      have := h.deep (bs ++ [x.op]) (by simp; omega) (by simp; omega)
      rw [if_neg (by rw [this]; decide)]
      exact this
  · rw [List.map_cons, List.map_append, ndRun, ndRun_app, nd_open _ ho, h.nd _ _ _ (by omega)]
    show ndStep e.op _ = _
    rw [oe, nd_end]
    simp only [Prod.mk.injEq]
    omega
theorem Pc.turn {x t e : InsD} {X Y : List InsD} {d s d2 s2 : Nat} (hx : chkD x = 0) (ht : chkD t = 0) (he : chkD e = 0) (ho : x.op = 4) (ot : t.op = 5) (oe : e.op = 11) (h : Pc X d s) (h2 : Pc Y d2 s2) : Pc (x :: (X ++ t :: (Y ++ [e]))) (max (1 + d) (1 + d2)) (1 + s + s2) := by
  have hO : isO x.op := Or.inr (Or.inr ho)
  refine ⟨fun bs hb => ?_, fun bs hb hd => ?_, fun o m a hm => ?_⟩
  · rw [run_cons x _ bs (bs ++ [x.op]) false hx (pst_open _ hO bs (by omega)), run_cat, h.run _ (by simp; omega), if_pos rfl, ho, run_cons t _ _ (bs ++ [5]) false ht (by rw [ot]; exact pst_else bs), run_cat, h2.run _ (by simp; omega), if_pos rfl, run_cons e [] _ bs false he (by rw [oe]; exact pst_end bs _)]
    rfl
  · by_cases hb2 : bs.length = 12
    · rw [nRun, hx, pst_deep _ hO bs hb2, if_neg (show ¬ (7 : Int) = 0 by decide)]
    · rw [run_cons x _ bs (bs ++ [x.op]) false hx (pst_open _ hO bs hb2), run_cat]
      by_cases e1 : bs.length + 1 + d ≤ 12
      · rw [h.run _ (by simp; omega), if_pos rfl, ho, run_cons t _ _ (bs ++ [5]) false ht (by rw [ot]; exact pst_else bs), run_cat]
        have := h2.deep (bs ++ [5]) (by simp; omega) (by simp; omega)
        rw [if_neg (by rw [this]; decide)]
        exact this
      · have := h.deep (bs ++ [x.op]) (by simp; omega) (by simp; omega)
        rw [if_neg (by rw [this]; decide)]
        exact this
  · rw [List.map_cons, List.map_append, List.map_cons, List.map_append, ndRun, ndRun_app, nd_open _ hO, h.nd _ _ _ (by omega), ndRun, ot, nd_skip 5 (by unfold isO; omega) (by omega) _ _ _ (by omega), ndRun_app, h2.nd _ _ _ (by omega)]
    show ndStep e.op _ = _
    rw [oe, nd_end]
    simp only [Prod.mk.injEq]
    omega
def NdLe (Y X : List InsD) : Prop := ∀ o m a : Int, o ≤ m → (ndRun (Y.map InsD.op) (o, m, a)).2.1 ≤ (ndRun (X.map InsD.op) (o, m, a)).2.1 ∧ (ndRun (Y.map InsD.op) (o, m, a)).2.2 ≤ (ndRun (X.map InsD.op) (o, m, a)).2.2
theorem nd_mono : ∀ (l : List Int) (o m a m' a' : Int), m' ≤ m → a' ≤ a → (ndRun l (o, m', a')).2.1 ≤ (ndRun l (o, m, a)).2.1 ∧ (ndRun l (o, m', a')).2.2 ≤ (ndRun l (o, m, a)).2.2
  | [], _, _, _, _, _, h1, h2 => ⟨h1, h2⟩
  | op :: l, o, m, a, m', a', h1, h2 => by
    rw [ndRun, ndRun]
    unfold ndStep
    simp only
    refine nd_mono l _ _ _ _ _ (by omega) ?_
    split <;> omega
theorem nd_om : ∀ (l : List Int) (o m a : Int), o ≤ m → (ndRun l (o, m, a)).1 ≤ (ndRun l (o, m, a)).2.1
  | [], _, _, _, h => h
  | op :: l, o, m, a, h => by
    rw [ndRun]
    unfold ndStep
    simp only
    exact nd_om l _ _ _ (by omega)
theorem swap_body (P X Y Q : List InsD) {d s d2 s2 : Nat} (hX : X ≠ []) (hp : Pc X d s) (hq : Pc Y d2 s2) (hd : d2 ≤ d) (hs : s2 ≤ s) (hl : Y.length < X.length) (hc : nChk (P ++ X ++ Q) = 0) : nChk (P ++ Y ++ Q) = 0 ∧ (P ++ Y ++ Q).length < (P ++ X ++ Q).length ∧ NdLe (P ++ Y ++ Q) (P ++ X ++ Q) := by
  have hlen : (P ++ Y ++ Q).length < (P ++ X ++ Q).length := by simp; omega
  obtain ⟨c1, c2, c3, _⟩ := nChk_ok _ hc
  refine ⟨?_, hlen, fun o m a hm => ?_⟩
  · rw [List.append_assoc, run_cat] at c2 c3
    by_cases h0 : (nRun P [] false).1 = 0
    · rw [if_pos h0] at c2 c3
      have hbl := run_len P [] false (by simp)
      cases hen : (nRun P [] false).2.2 with
      | true =>
        exfalso
        rw [hen] at c2
        cases X with
        | nil => exact hX rfl
        | cons x X =>
          rw [List.cons_append, nRun] at c2
          by_cases h1 : (nStep (chkD x) x.op (nRun P [] false).2.1 true).1 = 0
          · have := (nStep_ok _ _ _ _ h1).2
            cases this
          · rw [if_neg h1] at c2
            exact h1 c2
      | false =>
        rw [hen, run_cat] at c2 c3
        by_cases h1 : (nRun P [] false).2.1.length + d ≤ 12
        · rw [hp.run _ h1, if_pos rfl] at c2 c3
          have e : nRun (P ++ Y ++ Q) [] false = nRun Q (nRun P [] false).2.1 false := by
            rw [List.append_assoc, run_cat, if_pos h0, hen, run_cat, hq.run _ (by omega), if_pos rfl]
          unfold nChk
          rw [if_neg (by omega), e, if_pos c2, if_pos c3]
        · have := hp.deep _ hbl (by omega)
          rw [if_neg (by rw [this]; decide), this] at c2
          cases c2
    · rw [if_neg h0] at c2
      exact absurd c2 h0
  · rw [List.append_assoc, List.append_assoc, List.map_append, List.map_append, List.map_append, List.map_append, ndRun_app, ndRun_app, ndRun_app, ndRun_app]
    have hom := nd_om (P.map InsD.op) o m a hm
    generalize ndRun (P.map InsD.op) (o, m, a) = q at hom ⊢
    obtain ⟨o1, m1, a1⟩ := q
    simp only at hom
    rw [hp.nd o1 m1 a1 hom, hq.nd o1 m1 a1 hom]
    exact nd_mono _ _ _ _ _ _ (by omega) (by omega)
def sgI (L : List InsD) (i j : Nat) : List InsD := (L.drop i).take (j - i)
theorem sgI_cat (L : List InsD) (i a j : Nat) (h1 : i ≤ a) (h2 : a ≤ j) : sgI L i a ++ sgI L a j = sgI L i j := by
  unfold sgI
  have e : L.drop a = (L.drop i).drop (a - i) := by rw [List.drop_drop]; congr 1; omega
  rw [e, show j - i = (a - i) + (j - a) by omega, List.take_add]
theorem sgI_one (L : List InsD) (a : Nat) (h : a < L.length) : sgI L a (a + 1) = [L[a]] := by
  unfold sgI
  rw [List.drop_eq_getElem_cons h, show a + 1 - a = 1 by omega]
  rfl
theorem sgI_len (L : List InsD) (i j : Nat) (h : j ≤ L.length) : (sgI L i j).length = j - i := by
  unfold sgI; simp; omega
theorem sgI_around (L : List InsD) (i j : Nat) (h1 : i ≤ j) (h2 : j ≤ L.length) : L.take i ++ sgI L i j ++ L.drop j = L := by
  unfold sgI
  rw [List.append_assoc]
  have e : L.drop j = (L.drop i).drop (j - i) := by rw [List.drop_drop]; congr 1; omega
  rw [e, List.take_append_drop, List.take_append_drop]
theorem sgI_block (L : List InsD) (i q : Nat) (h : i < q) (hq : q < L.length) : sgI L i (q + 1) = L[i] :: (sgI L (i + 1) q ++ [L[q]]) := by
  rw [← sgI_cat L i (i + 1) (q + 1) (by omega) (by omega), sgI_one L i (by omega), ← sgI_cat L (i + 1) q (q + 1) (by omega) (by omega), sgI_one L q hq]
  rfl
theorem sgI_turn (L : List InsD) (i t q : Nat) (h : i < t) (ht : t < q) (hq : q < L.length) : sgI L i (q + 1) = L[i] :: (sgI L (i + 1) t ++ L[t] :: (sgI L (t + 1) q ++ [L[q]])) := by
  rw [← sgI_cat L i (i + 1) (q + 1) (by omega) (by omega), sgI_one L i (by omega), ← sgI_cat L (i + 1) t (q + 1) (by omega) (by omega), sgI_block L t q ht hq]
  rfl
section
variable {L : List InsD} {E S : List Int}
theorem seg_pc (hck : ∀ d ∈ L, chkD d = 0) {i j d s : Nat} (h : Seg L E S i j d s) : Pc (sgI L i j) d s := by
  have hk : ∀ p (hp : p < L.length), chkD (L[p]) = 0 := fun p hp => hck _ (List.getElem_mem hp)
  induction h with
  | nil i h =>
    unfold sgI
    rw [Nat.sub_self, List.take_zero]
    exact Pc.nil
  | single i j d s h o o5 o11 _ r ih =>
    have hl := r.le
    have hi : i < L.length := by omega
    rw [← sgI_cat L i (i + 1) j (by omega) (by omega), sgI_one L i hi]
    have e := opAt_get L i hi
    rw [e] at o o5 o11
    have := (Pc.skip (hk i hi) ⟨o, o5, o11⟩).app ih
    rw [show max 0 d = d by omega, show 0 + s = s by omega] at this
    exact this
  | block i q j d1 s1 d s h hq oo oq _ r1 r ih1 ih =>
    have hl := r.le
    have hi : i < L.length := by omega
    have hql : q < L.length := by omega
    rw [opAt_get L i hi] at oo
    rw [opAt_get L q hql] at oq
    rw [← sgI_cat L i (q + 1) j (by omega) (by omega), sgI_block L i q h hql]
    exact (Pc.block (hk i hi) (hk q hql) (by unfold isO; omega) oq ih1).app ih
  | ifN i q j d1 s1 d s h hq oo oq _ _ r1 r ih1 ih =>
    have hl := r.le
    have hi : i < L.length := by omega
    have hql : q < L.length := by omega
    rw [opAt_get L i hi] at oo
    rw [opAt_get L q hql] at oq
    rw [← sgI_cat L i (q + 1) j (by omega) (by omega), sgI_block L i q h hql]
    exact (Pc.block (hk i hi) (hk q hql) (by unfold isO; omega) oq ih1).app ih
  | ifE i t q j d1 s1 d2 s2 d s h ht hq oo ot oq _ _ r1 r2 r ih1 ih2 ih =>
    have hl := r.le
    have hi : i < L.length := by omega
    have htl : t < L.length := by omega
    have hql : q < L.length := by omega
    rw [opAt_get L i hi] at oo
    rw [opAt_get L t htl] at ot
    rw [opAt_get L q hql] at oq
    rw [← sgI_cat L i (q + 1) j (by omega) (by omega), sgI_turn L i t q h ht hql]
    exact (Pc.turn (hk i hi) (hk t htl) (hk q hql) oo ot oq ih1 ih2).app ih
inductive At (L : List InsD) (E S : List Int) (j p : Nat) : Prop
  | one (o : ¬ isO (opAt L p)) (e : E.getD p 0 = -1) : At L E S j p
  | block (q d s : Nat) (h : p < q) (hq : q < j) (o : opAt L p = 2 ∨ opAt L p = 3 ∨ (opAt L p = 4 ∧ S.getD p 0 = -1)) (oq : opAt L q = 11) (e : E.getD p 0 = (q : Int)) (r : Seg L E S (p + 1) q d s) : At L E S j p
  | turn (t q d s d2 s2 : Nat) (h : p < t) (ht : t < q) (hq : q < j) (o : opAt L p = 4) (ot : opAt L t = 5) (oq : opAt L q = 11) (e : E.getD p 0 = (q : Int)) (te : S.getD p 0 = (t : Int)) (r : Seg L E S (p + 1) t d s) (r2 : Seg L E S (t + 1) q d2 s2) : At L E S j p
theorem At.more {j j' p : Nat} (h : At L E S j p) (hj : j ≤ j') : At L E S j' p := by
  cases h with
  | one o e => exact .one o e
  | block q d s h hq o oq e r => exact .block q d s h (by omega) o oq e r
  | turn t q d s d2 s2 h ht hq o ot oq e te r r2 => exact .turn t q d s d2 s2 h ht (by omega) o ot oq e te r r2
theorem seg_at {i j d s : Nat} (h : Seg L E S i j d s) : ∀ p, i ≤ p → p < j → opAt L p ≠ 5 → opAt L p ≠ 11 → At L E S j p := by
  induction h with
  | nil i h => intro p h1 h2; omega
  | single i j d s h o o5 o11 e r ih =>
    intro p h1 h2 p5 p11
    by_cases hp : p = i
    · subst hp; exact .one o e
    · exact ih p (by omega) h2 p5 p11
  | block i q j d1 s1 d s h hq oo oq e r1 r ih1 ih =>
    intro p h1 h2 p5 p11
    by_cases hp : p = i
    · subst hp; exact .block q d1 s1 h hq (by rcases oo with h | h <;> simp [h]) oq e r1
    · by_cases hp2 : p < q
      · exact (ih1 p (by omega) hp2 p5 p11).more (by omega)
      · by_cases hp3 : p = q
        · subst hp3; exact absurd oq p11
        · exact ih p (by omega) h2 p5 p11
  | ifN i q j d1 s1 d s h hq oo oq e t r1 r ih1 ih =>
    intro p h1 h2 p5 p11
    by_cases hp : p = i
    · subst hp; exact .block q d1 s1 h hq (Or.inr (Or.inr ⟨oo, t⟩)) oq e r1
    · by_cases hp2 : p < q
      · exact (ih1 p (by omega) hp2 p5 p11).more (by omega)
      · by_cases hp3 : p = q
        · subst hp3; exact absurd oq p11
        · exact ih p (by omega) h2 p5 p11
  | ifE i t q j d1 s1 d2 s2 d s h ht hq oo ot oq e te r1 r2 r ih1 ih2 ih =>
    intro p h1 h2 p5 p11
    by_cases hp : p = i
    · subst hp; exact .turn t q d1 s1 d2 s2 h ht hq oo ot oq e te r1 r2
    · by_cases hp2 : p < t
      · exact (ih1 p (by omega) hp2 p5 p11).more (by omega)
      · by_cases hp4 : p = t
        · subst hp4; exact absurd ot p5
        · by_cases hp5 : p < q
          · exact (ih2 p (by omega) hp5 p5 p11).more (by omega)
          · by_cases hp3 : p = q
            · subst hp3; exact absurd oq p11
            · exact ih p (by omega) h2 p5 p11
end
end Go.Proofs.YtkceplamaocmmaaGreatDoor
