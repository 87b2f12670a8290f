/-
  A body within a block: plain mathematics.
-/
import Derived.Test.YtmbficofcmfmlaaDoorNScan
import Derived.Test.YtmbficofcmfmlaaDoorNTreeOf
namespace Go.Proofs.YtmbficofcmfmlaaDoor
open Go.RowKit

theorem nRun_cat : ∀ (A B : List InsD) (bs : List Int) (en : Bool), nRun (A ++ B) bs en = if (nRun A bs en).1 = 0 then nRun B (nRun A bs en).2.1 (nRun A bs en).2.2 else nRun A bs en
  | [], B, bs, en => by
    rw [List.nil_append, show nRun [] bs en = (0, bs, en) from rfl, if_pos rfl]
  | x :: A, B, bs, en => by
    rw [List.cons_append, nRun, nRun]
    by_cases h0 : (nStep (chkD x) x.op bs en).1 = 0
    · rw [if_pos h0, if_pos h0]
      exact nRun_cat A B _ _
    · rw [if_neg h0, if_neg h0, if_neg h0]
/-- The instructions from place i on up to j. -/
def segI (L : List InsD) (i j : Nat) : List InsD := (L.drop i).take (j - i)
theorem segI_cat (L : List InsD) (i a j : Nat) (h1 : i ≤ a) (h2 : a ≤ j) : segI L i a ++ segI L a j = segI L i j := by
  unfold segI
  have e : L.drop a = (L.drop i).drop (a - i) := by rw [List.drop_drop]; congr 1; omega
  rw [e, show j - i = (a - i) + (j - a) by omega, List.take_add]
theorem segI_one (L : List InsD) (a : Nat) (h : a < L.length) : segI L a (a + 1) = [L[a]] := by
  unfold segI
  rw [List.drop_eq_getElem_cons h, show a + 1 - a = 1 by omega]
  rfl
/-- One instruction that is well. -/
theorem run_one (L : List InsD) (hck : ∀ d ∈ L, chkD d = 0) (a : Nat) (h : a < L.length) (bs : List Int) : nRun (segI L a (a + 1)) bs false = if (nStep 0 (opAt L a) bs false).1 = 0 then (0, (nStep 0 (opAt L a) bs false).2.1, (nStep 0 (opAt L a) bs false).2.2) else nStep 0 (opAt L a) bs false := by
  rw [segI_one L a h, opAt_get L a h]
  show (if (nStep (chkD (L[a])) (L[a]).op bs false).1 = 0 then _ else _) = _
  rw [hck _ (List.getElem_mem h)]
  rfl
theorem st_open (op : Int) (ho : isO op) (bs : List Int) (h : bs.length ≠ 12) : nStep 0 op bs false = (0, bs ++ [op], false) := nStep_open op bs ho h
theorem st_deep (op : Int) (ho : isO op) (bs : List Int) (h : bs.length = 12) : nStep 0 op bs false = (7, bs, false) := by
  unfold nStep
  rw [if_neg (by simp), if_neg (by simp), if_pos (show op = 2 ∨ op = 3 ∨ op = 4 from ho), if_pos h]
theorem st_skip (op : Int) (ho : ¬ isO op) (o5 : op ≠ 5) (o11 : op ≠ 11) (bs : List Int) : nStep 0 op bs false = (0, bs, false) := by
  unfold nStep
  rw [if_neg (by simp), if_neg (by simp), if_neg (show ¬ (op = 2 ∨ op = 3 ∨ op = 4) from ho), if_neg o5, if_neg o11]
theorem st_end (bs : List Int) (x : Int) : nStep 0 11 (bs ++ [x]) false = (0, bs, false) := by
  unfold nStep
  rw [if_neg (by simp), if_neg (by simp), if_neg (by omega), if_neg (by omega), if_pos rfl]
  cases bs with
  | nil => rfl
  | cons a b =>
    simp only [List.cons_append]
    rw [show a :: (b ++ [x]) = (a :: b) ++ [x] from rfl, List.dropLast_concat]
theorem st_else (bs : List Int) : nStep 0 5 (bs ++ [4]) false = (0, bs ++ [5], false) := by
  unfold nStep
  rw [if_neg (by simp), if_neg (by simp), if_neg (by omega), if_pos rfl, List.getLast?_append]
  simp
theorem st_last : nStep 0 11 [] false = (0, [], true) := rfl
/-- A piece that is made of parts fits, or is too deep. -/
theorem seg_run {L : List InsD} (hck : ∀ d ∈ L, chkD d = 0) {E S : List Int} {i j d s : Nat} (h : Seg L E S i j d s) : ∀ bs : List Int, (bs.length + d ≤ 12 → nRun (segI L i j) bs false = (0, bs, false)) ∧ (bs.length ≤ 12 → 12 < bs.length + d → (nRun (segI L i j) bs false).1 = 7) := by
  have go : ∀ (x y z : Nat) (bs cs : List Int), x ≤ y → y ≤ z → nRun (segI L x y) bs false = (0, cs, false) → nRun (segI L x z) bs false = nRun (segI L y z) cs false := fun x y z bs cs h1 h2 hr => by
    rw [← segI_cat L x y z h1 h2, nRun_cat, hr, if_pos rfl]
  have stop : ∀ (x y z : Nat) (bs : List Int), x ≤ y → y ≤ z → (nRun (segI L x y) bs false).1 = 7 → (nRun (segI L x z) bs false).1 = 7 := fun x y z bs h1 h2 hr => by
    rw [← segI_cat L x y z h1 h2, nRun_cat, if_neg (by rw [hr]; decide)]
    exact hr
  have one : ∀ (a : Nat) (bs cs : List Int), a < L.length → nStep 0 (opAt L a) bs false = (0, cs, false) → nRun (segI L a (a + 1)) bs false = (0, cs, false) := fun a bs cs h hs => by
    rw [run_one L hck a h bs, hs, if_pos rfl]
  have deep : ∀ (a : Nat) (bs : List Int), a < L.length → nStep 0 (opAt L a) bs false = (7, bs, false) → (nRun (segI L a (a + 1)) bs false).1 = 7 := fun a bs h hs => by
    rw [run_one L hck a h bs, hs, if_neg (fun h : (7 : Int) = 0 => by cases h)]
  induction h with
  | nil i h =>
    intro bs
    refine ⟨fun _ => ?_, fun h1 h2 => by omega⟩
    unfold segI
    rw [Nat.sub_self, List.take_zero]
    rfl
  | single i j d s h o o5 o11 _ r ih =>
    intro bs
    have hl := r.le
    have h1 := one i bs bs (by omega) (st_skip _ o o5 o11 bs)
    rw [go i (i + 1) j bs bs (by omega) (by omega) h1]
    exact ih bs
  | block i q j d1 s1 d s h hq oo oq _ r1 r ih1 ih =>
    intro bs
    have hl := r.le
    have hO : isO (opAt L i) := by rcases oo with h | h; exact Or.inl h; exact Or.inr (Or.inl h)
    by_cases hb : bs.length = 12
    · refine ⟨fun hh => by omega, fun _ _ => ?_⟩
      exact stop i (i + 1) j bs (by omega) (by omega) (deep i bs (by omega) (st_deep _ hO bs hb))
    · have h1 := one i bs (bs ++ [opAt L i]) (by omega) (st_open _ hO bs hb)
      rw [go i (i + 1) j bs _ (by omega) (by omega) h1]
      have hle : (bs ++ [opAt L i]).length = bs.length + 1 := by simp
      by_cases hd : bs.length + 1 + d1 ≤ 12
      · have h2 := (ih1 (bs ++ [opAt L i])).1 (by omega)
        rw [go (i + 1) q j _ _ (by omega) (by omega) h2]
        have h3 := one q (bs ++ [opAt L i]) bs (by omega) (by rw [oq]; exact st_end bs _)
        rw [go q (q + 1) j _ _ (by omega) (by omega) h3]
        exact ⟨fun hh => (ih bs).1 (by omega), fun hx hh => (ih bs).2 hx (by omega)⟩
      · refine ⟨fun hh => by omega, fun hx _ => ?_⟩
        exact stop (i + 1) q j _ (by omega) (by omega) ((ih1 (bs ++ [opAt L i])).2 (by omega) (by omega))
  | ifN i q j d1 s1 d s h hq oo oq _ _ r1 r ih1 ih =>
    intro bs
    have hl := r.le
    have hO : isO (opAt L i) := Or.inr (Or.inr oo)
    by_cases hb : bs.length = 12
    · refine ⟨fun hh => by omega, fun _ _ => ?_⟩
      exact stop i (i + 1) j bs (by omega) (by omega) (deep i bs (by omega) (st_deep _ hO bs hb))
    · have h1 := one i bs (bs ++ [opAt L i]) (by omega) (st_open _ hO bs hb)
      rw [go i (i + 1) j bs _ (by omega) (by omega) h1]
      have hle : (bs ++ [opAt L i]).length = bs.length + 1 := by simp
      by_cases hd : bs.length + 1 + d1 ≤ 12
      · have h2 := (ih1 (bs ++ [opAt L i])).1 (by omega)
        rw [go (i + 1) q j _ _ (by omega) (by omega) h2]
        have h3 := one q (bs ++ [opAt L i]) bs (by omega) (by rw [oq]; exact st_end bs _)
        rw [go q (q + 1) j _ _ (by omega) (by omega) h3]
        exact ⟨fun hh => (ih bs).1 (by omega), fun hx hh => (ih bs).2 hx (by omega)⟩
      · refine ⟨fun hh => by omega, fun hx _ => ?_⟩
        exact stop (i + 1) q j _ (by omega) (by omega) ((ih1 (bs ++ [opAt L i])).2 (by omega) (by omega))
  | ifE i t q j d1 s1 d2 s2 d s h ht hq oo ot oq _ _ r1 r2 r ih1 ih2 ih =>
    intro bs
    have hl := r.le
    have hO : isO (opAt L i) := Or.inr (Or.inr oo)
    by_cases hb : bs.length = 12
    · refine ⟨fun hh => by omega, fun _ _ => ?_⟩
      exact stop i (i + 1) j bs (by omega) (by omega) (deep i bs (by omega) (st_deep _ hO bs hb))
    · have h1 := one i bs (bs ++ [4]) (by omega) (by have := st_open _ hO bs hb; rw [oo] at this ⊢; exact this)
      rw [go i (i + 1) j bs _ (by omega) (by omega) h1]
      have hle : (bs ++ [(4 : Int)]).length = bs.length + 1 := by simp
      have hle5 : (bs ++ [(5 : Int)]).length = bs.length + 1 := by simp
      by_cases hd : bs.length + 1 + d1 ≤ 12
      · have h2 := (ih1 (bs ++ [4])).1 (by omega)
        rw [go (i + 1) t j _ _ (by omega) (by omega) h2]
        have h3 := one t (bs ++ [4]) (bs ++ [5]) (by omega) (by rw [ot]; exact st_else bs)
        rw [go t (t + 1) j _ _ (by omega) (by omega) h3]
        by_cases hd2 : bs.length + 1 + d2 ≤ 12
        · have h4 := (ih2 (bs ++ [5])).1 (by omega)
          rw [go (t + 1) q j _ _ (by omega) (by omega) h4]
          have h5 := one q (bs ++ [5]) bs (by omega) (by rw [oq]; exact st_end bs _)
          rw [go q (q + 1) j _ _ (by omega) (by omega) h5]
          exact ⟨fun hh => (ih bs).1 (by omega), fun hx hh => (ih bs).2 hx (by omega)⟩
        · refine ⟨fun hh => by omega, fun hx _ => ?_⟩
          exact stop (t + 1) q j _ (by omega) (by omega) ((ih2 (bs ++ [5])).2 (by omega) (by omega))
      · refine ⟨fun hh => by omega, fun hx _ => ?_⟩
        exact stop (i + 1) t j _ (by omega) (by omega) ((ih1 (bs ++ [4])).2 (by omega) (by omega))
theorem nChk_vdW (L : List InsD) (h : L.length ≤ 200) : nChk L = vd (nRun L [] false) := by
  unfold nChk vd
  rw [if_neg (by omega)]
/-- The block around a body. -/
def hdD (op : Int) : InsD := ⟨op, 64, 0, none, 0, 0, []⟩
def wrapL (op : Int) (L : List InsD) : List InsD := hdD op :: (L ++ [opD 11])
theorem hd_chk (op : Int) (h : op = 2 ∨ op = 3) : chkD (hdD op) = 0 := by
  rcases h with h | h <;> subst h <;> decide +kernel
theorem end_chk : chkD (opD 11) = 0 := by decide +kernel
/-- What is said of a body within a block. -/
theorem wrap_chk (L : List InsD) (hc : nChk L = 0) {E S : List Int} {D Z : Nat} (h : Seg L E S 0 (L.length - 1) D Z) (o11 : opAt L (L.length - 1) = 11) (op : Int) (ho : op = 2 ∨ op = 3) : D ≤ 12 ∧ nChk (wrapL op L) = if 198 < L.length then 2 else if D = 12 then 7 else 0 := by
  obtain ⟨h200, h1, h2, hpos⟩ := nChk_ok L hc
  have hall := nRun_chk L [] false h1
  have hl : L.length - 1 < L.length := by omega
  have eL : L = segI L 0 (L.length - 1) ++ segI L (L.length - 1) (L.length - 1 + 1) := by
    rw [segI_cat L 0 (L.length - 1) (L.length - 1 + 1) (by omega) (by omega)]
    unfold segI
    rw [List.drop_zero, List.take_of_length_le (by omega)]
  have hsr := seg_run hall h
  have hO : isO op := by rcases ho with h | h; exact Or.inl h; exact Or.inr (Or.inl h)
  have hD : D ≤ 12 := by
    apply Nat.le_of_not_lt
    intro hlt
    have h7 := (hsr []).2 (by simp) (by simp; omega)
    have : (nRun L [] false).1 = 7 := by
      rw [eL, nRun_cat, if_neg (by rw [h7]; decide)]
      exact h7
    rw [h1] at this
    cases this
  refine ⟨hD, ?_⟩
  have hlen : (wrapL op L).length = L.length + 2 := by unfold wrapL; simp
  by_cases hbig : 198 < L.length
  · rw [if_pos hbig]
    unfold nChk
    rw [if_pos (by omega)]
  · rw [if_neg hbig, nChk_vdW _ (by omega)]
    have hst : nRun (wrapL op L) [] false = nRun (L ++ [opD 11]) [op] false := by
      have e : nStep (chkD (hdD op)) (hdD op).op [] false = (0, [op], false) := by
        rw [hd_chk op ho]
        exact st_open op hO [] (by simp)
      unfold wrapL
      rw [nRun, e, if_pos rfl]
    rw [hst, nRun_cat]
    by_cases hd : D = 12
    · have h7 := (hsr [op]).2 (by simp) (by simp; omega)
      have h8 : (nRun L [op] false).1 = 7 := by
        rw [eL, nRun_cat, if_neg (by rw [h7]; decide)]
        exact h7
      rw [if_neg (by rw [h8]; decide), if_pos hd, vd_err _ (by rw [h8]; decide), h8]
    · have h0 := (hsr [op]).1 (by simp; omega)
      have h9 : nRun L [op] false = (0, [], false) := by
        have e := run_one L hall (L.length - 1) hl [op]
        rw [o11, show nStep 0 11 [op] false = (0, [], false) from st_end [] op, if_pos rfl] at e
        have e2 : nRun (segI L 0 (L.length - 1) ++ segI L (L.length - 1) (L.length - 1 + 1)) [op] false = (0, [], false) := by
          rw [nRun_cat, h0, if_pos rfl]
          exact e
        rw [← eL] at e2
        exact e2
      rw [h9, if_pos rfl, if_neg hd]
      show vd (if (nStep (chkD (opD 11)) 11 [] false).1 = 0 then _ else _) = 0
      rw [end_chk, st_last]
      rfl
theorem wrap_nd (L : List InsD) (hc : nChk L = 0) {E S : List Int} {D Z : Nat} (h : Seg L E S 0 (L.length - 1) D Z) (o11 : opAt L (L.length - 1) = 11) (op : Int) (ho : op = 2 ∨ op = 3) (hw : nChk (wrapL op L) = 0) {E' S' : List Int} {D' Z' : Nat} (h' : Seg (wrapL op L) E' S' 0 ((wrapL op L).length - 1) D' Z') (o11' : opAt (wrapL op L) ((wrapL op L).length - 1) = 11) : D' = D + 1 ∧ Z' = Z + 1 := by
  have e1 := body_nd (wrapL op L) hw h' o11' 0 0 0 (by omega)
  have hO : isO op := by rcases ho with h | h; exact Or.inl h; exact Or.inr (Or.inl h)
  have e2 : ndRun ((wrapL op L).map InsD.op) (0, 0, 0) = ndStep 11 (ndRun (L.map InsD.op) (ndStep op (0, 0, 0))) := by
    unfold wrapL
    rw [List.map_cons, List.map_append, ndRun, ndRun_app]
    rfl
  rw [e2, nd_open op hO, body_nd L hc h o11 _ _ _ (by omega), nd_end] at e1
  simp only [Prod.mk.injEq] at e1
  omega

end Go.Proofs.YtmbficofcmfmlaaDoor
