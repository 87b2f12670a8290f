/-
 A body within a block of its own kind: over values.
 A module with another function in one place; a body within a block leaves a sound module sound: over values.
 The laws' own wrapped: a body within a block.
-/
import Derived.Test.YtgleeocebnjliaaGreatDoorAVN
set_option maxHeartbeats 4000000
set_option maxRecDepth 1000000
namespace Go.Proofs.YtgleeocebnjliaaGreatDoor
open Go.RowKit
set_option linter.unusedVariables false
theorem step_zero {m : ModD} {loc st : List Int} {pre : List BlkV} {b : BlkV} {op a : Int} {xs : List Int} (h : (stepV m loc st pre b false op a xs).1 = 0) :
  thereK m loc.length (pre.length + 1) op a xs = true ∧ skewK op a = false ∧ allowedV m (pre ++ [b]) op a xs = true ∧ (passV m loc st pre b false op a).bad = false ∧ stepV m loc st pre b false op a xs = (0, passV m loc st pre b false op a) := by
 unfold stepV at h ⊢
 split at h
 ·exact absurd h (by decide)
 rename_i n1
 split at h
 ·exact absurd h (by decide)
 rename_i n2
 split at h
 ·exact absurd h (by decide)
 rename_i n3
 have hal : allowedV m (pre ++ [b]) op a xs = true := by
  cases e : allowedV m (pre ++ [b]) op a xs with
  | true => rfl
  | false =>
   rw [e] at n3
   exact absurd (passV_bad m loc st pre b op a) n3
 rw [hal] at n3 ⊢
 rw [if_neg n1, if_neg n2, if_neg n3]
 exact ⟨by simpa using n1, by simpa using n2, rfl, by simpa using n3, rfl⟩
theorem step_of {m : ModD} {loc st : List Int} {pre : List BlkV} {b : BlkV} {op a : Int} {xs : List Int} (h1 : thereK m loc.length (pre.length + 1) op a xs = true) (h2 : skewK op a = false) (h3 : allowedV m (pre ++ [b]) op a xs = true) (h4 : (passV m loc st pre b false op a).bad = false) : stepV m loc st pre b false op a xs = (0, passV m loc st pre b false op a) := by
 unfold stepV
 rw [h3, if_neg (by rw [h1]; decide), if_neg (by rw [h2]; decide), if_neg]
 ·rfl
 ·show ¬ (passV m loc st pre b false op a).bad = true
  rw [h4]
  decide
theorem alV_cons (c : BlkV) (ops : List BlkV) (f : Int) (h : f.toNat < ops.length) : alV (c :: ops) f = alV ops f := by
 unfold alV
 have : (c :: ops).length - 1 - f.toNat = (ops.length - 1 - f.toNat) + 1 := by simp; omega
 rw [this, List.getElem?_cons_succ]
theorem effV_cons (m : ModD) (loc : List Int) (c : BlkV) (ops : List BlkV) (op a : Int) (h : op = 12 ∨ op = 13 ∨ op = 14 → a.toNat < ops.length) (h0 : c.along = ((ops[0]?).map BlkV.along).getD []) : effV m loc (c :: ops) op a = effV m loc ops op a := by
 have e0 : (((c :: ops)[0]?).map BlkV.along).getD [] = ((ops[0]?).map BlkV.along).getD [] := h0
 unfold effV
 rw [e0]
 by_cases e : op = 12 ∨ op = 13 ∨ op = 14
 ·rw [alV_cons c ops a (h e)]
 ·rw [if_neg (fun q => e (.inl q) : ¬ op = 12), if_neg (fun q => e (.inr (.inl q)) : ¬ op = 13), if_neg (fun q => e (.inr (.inr q)) : ¬ op = 14), if_neg (fun q => e (.inl q) : ¬ op = 12), if_neg (fun q => e (.inr (.inl q)) : ¬ op = 13), if_neg (fun q => e (.inr (.inr q)) : ¬ op = 14)]
def TrkV.under (c : BlkV) (T : TrkV) : TrkV := ⟨T.st, c :: T.ops, T.bad⟩
theorem pass1_cons (m : ModD) (loc st : List Int) (c : BlkV) (pre : List BlkV) (b : BlkV) (bad : Bool) (op a : Int) (he : effV m loc (c :: (pre ++ [b])) op a = effV m loc (pre ++ [b]) op a) : pass1 m loc st (c :: pre) b bad op a = (pass1 m loc st pre b bad op a).under c := by
 unfold pass1
 rw [List.cons_append, he]
 split
 ·rfl
 split
 ·rfl
 split
 ·rfl
 split
 ·rfl
 ·rfl
theorem passV_cons (m : ModD) (loc st : List Int) (c : BlkV) (pre : List BlkV) (b : BlkV) (bad : Bool) (op a : Int) (he : effV m loc (c :: (pre ++ [b])) op a = effV m loc (pre ++ [b]) op a) : passV m loc st (c :: pre) b bad op a = (passV m loc st pre b bad op a).under c := by
 unfold passV
 rw [pass1_cons m loc st c pre b bad op a he]
 split
 ·rfl
 split
 ·rfl
 ·rfl
theorem there_ways {m : ModD} {nl no : Nat} {op a : Int} {xs : List Int} (h : thereK m nl no op a xs = true) (ho : op = 12 ∨ op = 13 ∨ op = 14) : a < (no : Int) ∧ ∀ f ∈ xs, f < (no : Int) := by
 unfold thereK at h
 rw [if_pos ho, Bool.and_eq_true] at h
 refine ⟨of_decide_eq_true h.1, fun f hf => ?_⟩
 have h2 := h.2
 rw [Bool.not_eq_true', List.any_eq_false] at h2
 have := h2 f hf
 simpa using this
theorem there_more {m : ModD} {nl no : Nat} {op a : Int} {xs : List Int} (h : thereK m nl no op a xs = true) : thereK m nl (no + 1) op a xs = true := by
 by_cases ho : op = 12 ∨ op = 13 ∨ op = 14
 ·obtain ⟨h1, h2⟩ := there_ways h ho
  unfold thereK
  rw [if_pos ho, Bool.and_eq_true, Bool.not_eq_true', List.any_eq_false]
  refine ⟨decide_eq_true (by omega), fun f hf => ?_⟩
  have := h2 f hf
  simp
  omega
 ·unfold thereK at h ⊢
  rw [if_neg ho] at h ⊢
  exact h
theorem allowed_cons {m : ModD} (c : BlkV) (ops : List BlkV) (op a : Int) (xs : List Int) (h : op = 14 → a.toNat < ops.length ∧ ∀ f ∈ xs, f.toNat < ops.length) : allowedV m (c :: ops) op a xs = allowedV m ops op a xs := by
 unfold allowedV
 split
 ·rfl
 split
 ·rename_i e
  obtain ⟨h1, h2⟩ := h e
  rw [alV_cons c ops a h1]
  congr 1
  have : ∀ l : List Int, (∀ f ∈ l, f.toNat < ops.length) → (l.any fun f => !(alV (c :: ops) f == alV ops a)) = l.any fun f => !(alV ops f == alV ops a) := fun l => by
   induction l with
   | nil => intro _; rfl
   | cons x l ih =>
    intro hl
    rw [List.any_cons, List.any_cons, alV_cons c ops x (hl x (by simp)), ih (fun f hf => hl f (by simp [hf]))]
  exact this xs h2
 ·rfl
theorem step_cons {m : ModD} {loc st : List Int} {pre : List BlkV} {b : BlkV} {op a : Int} {xs : List Int} (c : BlkV) (h0 : c.along = (((pre ++ [b])[0]?).map BlkV.along).getD []) (h : (stepV m loc st pre b false op a xs).1 = 0) :
  stepV m loc st (c :: pre) b false op a xs = (0, ((stepV m loc st pre b false op a xs).2).under c) := by
 obtain ⟨h1, h2, h3, h4, h5⟩ := step_zero h
 have hw : op = 12 ∨ op = 13 ∨ op = 14 → a.toNat < (pre ++ [b]).length ∧ ∀ f ∈ xs, f.toNat < (pre ++ [b]).length := fun ho => by
  obtain ⟨q1, q2⟩ := there_ways h1 ho
  rw [List.length_append, List.length_singleton]
  exact ⟨by omega, fun f hf => by have := q2 f hf; omega⟩
 have he := effV_cons m loc c (pre ++ [b]) op a (fun ho => (hw ho).1) h0
 have hp := passV_cons m loc st c pre b false op a he
 rw [step_of (there_more h1) h2 (by rw [List.cons_append, allowed_cons c (pre ++ [b]) op a xs (fun ho => hw (.inr (.inr ho)))]; exact h3) (by rw [hp]; exact h4), h5, hp]
def Fst (ks : List Int) (ops : List BlkV) : Prop := ∃ b0 rest, ops = b0 :: rest ∧ b0.ks = ks ∧ b0.op ≠ 3 ∧ b0.base = 0
theorem Fst.along {ks : List Int} {ops : List BlkV} (h : Fst ks ops) : ((ops[0]?).map BlkV.along).getD [] = ks := by
 obtain ⟨b0, rest, rfl, h1, h2, _⟩ := h
 show b0.along = ks
 unfold BlkV.along
 rw [if_neg h2, h1]
theorem Fst.swap {ks : List Int} {pre : List BlkV} {b b' : BlkV} (h : Fst ks (pre ++ [b])) (h1 : b'.ks = b.ks) (h2 : b'.op = b.op ∨ b'.op = 5) (h3 : b'.base = b.base) (l : List BlkV) : Fst ks (pre ++ [b'] ++ l) := by
 obtain ⟨b0, rest, e, k1, k2, k3⟩ := h
 cases pre with
 | nil =>
  simp only [List.nil_append, List.cons.injEq] at e
  obtain ⟨rfl, _⟩ := e
  exact ⟨b', l, rfl, h1.trans k1, by rcases h2 with h2 | h2 <;> omega, h3.trans k3⟩
 | cons x pre =>
  simp only [List.cons_append, List.cons.injEq] at e
  obtain ⟨rfl, _⟩ := e
  exact ⟨x, pre ++ [b'] ++ l, rfl, k1, k2, k3⟩
theorem Fst.pre {ks : List Int} {pre : List BlkV} {b : BlkV} (h : Fst ks (pre ++ [b])) (hp : pre ≠ []) : Fst ks pre := by
 obtain ⟨b0, rest, e, k1, k2, k3⟩ := h
 cases pre with
 | nil => exact absurd rfl hp
 | cons x pre =>
  simp only [List.cons_append, List.cons.injEq] at e
  obtain ⟨rfl, _⟩ := e
  exact ⟨x, pre, rfl, k1, k2, k3⟩
theorem pass_ops (m : ModD) (loc st : List Int) (pre : List BlkV) (b : BlkV) (bad : Bool) (op a : Int) :
  (op = 11 ∧ passV m loc st pre b bad op a = ⟨(finV st b bad).1 ++ b.ks, pre, (finV st b bad).2 || !(if b.op = 4 then ((b.ks.length : Int) == 0) else true)⟩) ∨
  (op ≠ 11 ∧ ∃ b' l, (passV m loc st pre b bad op a).ops = pre ++ [b'] ++ l ∧ b'.ks = b.ks ∧ (b'.op = b.op ∨ b'.op = 5) ∧ b'.base = b.base ∧ (l.length = if op = 2 ∨ op = 3 ∨ op = 4 then 1 else 0)) := by
 by_cases c11 : op = 11
 ·left
  subst c11
  exact ⟨rfl, rfl⟩
 ·right
  refine ⟨c11, ?_⟩
  have h1 : ∃ b', (pass1 m loc st pre b bad op a).ops = pre ++ [b'] ∧ b'.ks = b.ks ∧ (b'.op = b.op ∨ b'.op = 5) ∧ b'.base = b.base := by
   unfold pass1
   split
   ·exact ⟨b, rfl, rfl, .inl rfl, rfl⟩
   split
   ·exact ⟨b, rfl, rfl, .inl rfl, rfl⟩
   split
   ·exact ⟨_, rfl, rfl, .inr rfl, rfl⟩
   exact ⟨b, rfl, rfl, .inl rfl, rfl⟩
  obtain ⟨b', e, k1, k2, k3⟩ := h1
  unfold passV
  split
  ·exact ⟨b', _, by rw [e], k1, k2, k3, rfl⟩
  rename_i n2
  split
  ·exact ⟨{ b with dead := true }, [], by simp, rfl, .inl rfl, rfl, rfl⟩
  ·exact ⟨b', [], by rw [e, List.append_nil], k1, k2, k3, rfl⟩
theorem fin_zero {st : List Int} {b : BlkV} (hb : b.base = 0) (h : (finV st b false).2 = false) : (finV st b false).1 = [] := by
 unfold finV at h ⊢
 rw [Bool.or_eq_false_iff, Bool.not_eq_false'] at h
 have h2 := eq_of_beq h.2
 rw [hb] at h2
 refine List.length_eq_zero_iff.1 ?_
 dsimp only
 omega
theorem end_all (m : ModD) (loc ks : List Int) (hk : ks.length ≤ 1) : nextV m loc ⟨ks, [⟨2, ks, 0, false⟩], false⟩ (bareI 11) = (0, ⟨ks, [], false⟩) := by
 have e : nextV m loc ⟨ks, [] ++ [⟨2, ks, 0, false⟩], false⟩ (bareI 11) = stepV m loc ks [] ⟨2, ks, 0, false⟩ false 11 0 [] := nextV_eq ..
 refine Eq.trans e ?_
 have hp : passV m loc ks [] ⟨2, ks, 0, false⟩ false 11 0 = ⟨ks, [], false⟩ := by
  match ks, hk with
  | [], _ => rfl
  | [k], _ =>
   have ht : takeV k [k] ⟨2, [k], 0, false⟩ false = (if k = 0 then k else k, [], if k = 0 then false else false || !(k == k || k == 0)) := rfl
   have ht2 : ((takeV k [k] ⟨2, [k], 0, false⟩ false).2.1, (takeV k [k] ⟨2, [k], 0, false⟩ false).2.2) = (([] : List Int), false) := by
    rw [ht]
    simp
   show TrkV.mk ((finV [k] ⟨2, [k], 0, false⟩ false).1 ++ [k]) [] ((finV [k] ⟨2, [k], 0, false⟩ false).2 || !(if (2 : Int) = 4 then (([k].length : Int) == 0) else true)) = _
   have hf : finV [k] ⟨2, [k], 0, false⟩ false = ([], false) := by
    unfold finV tksV
    show ((takeV k [k] ⟨2, [k], 0, false⟩ false).2.1, (takeV k [k] ⟨2, [k], 0, false⟩ false).2.2 || !(((takeV k [k] ⟨2, [k], 0, false⟩ false).2.1.length : Int) == ((0 : Nat) : Int))) = _
    rw [(Prod.mk.inj ht2).1, (Prod.mk.inj ht2).2]
    rfl
   rw [hf]
   rfl
 rw [step_of rfl rfl rfl (by rw [hp]), hp]
theorem run_wrap (m : ModD) (loc ks : List Int) (hk : ks.length ≤ 1) : ∀ (L : List InsD) (bs : List Int) (T : TrkV) (i j : Nat), T.bad = false → Fst ks T.ops → T.ops.length = bs.length + 1 → (nRun L bs false).1 = 0 → (nRun L bs false).2.2 = true → (runV m loc L i T).2 = 0 →
  (runV m loc (L ++ [bareI 11]) j (T.under ⟨2, ks, 0, false⟩)).2 = 0
 | [], bs, T, i, j, _, _, _, _, h, _ => by cases h
 | d :: L, bs, ⟨st, ops, bad⟩, i, j, hb, hf, hl, hn, hn2, hr => by
  dsimp only at hb hf hl
  subst hb
  obtain ⟨pre, b, rfl⟩ : ∃ pre b, ops = pre ++ [b] := ⟨_, _, (List.dropLast_concat_getLast (by intro e; rw [e] at hl; simp at hl)).symm⟩
  rw [runV_cons, nextV_eq] at hr
  have hE : (stepV m loc st pre b false d.op d.A d.xs).1 = 0 := by
   by_cases c : (stepV m loc st pre b false d.op d.A d.xs).1 = 0
   ·exact c
   ·rw [if_neg c] at hr
    exact absurd hr c
  rw [if_pos hE] at hr
  have hs := step_cons ⟨2, ks, 0, false⟩ (by rw [hf.along]; rfl) hE
  have e1 : nextV m loc (TrkV.under ⟨2, ks, 0, false⟩ ⟨st, pre ++ [b], false⟩) d = (0, ((stepV m loc st pre b false d.op d.A d.xs).2).under ⟨2, ks, 0, false⟩) := by
   have : nextV m loc ⟨st, (⟨2, ks, 0, false⟩ :: pre) ++ [b], false⟩ d = _ := nextV_eq m loc st (⟨2, ks, 0, false⟩ :: pre) b false d
   exact this.trans hs
  rw [List.cons_append, runV_cons, e1, if_pos rfl]
  obtain ⟨_, _, _, h4, h5⟩ := step_zero hE
  rw [nRun] at hn hn2
  have hst : (nStep (chkD d) d.op bs false).1 = 0 := by
   by_cases c : (nStep (chkD d) d.op bs false).1 = 0
   ·exact c
   ·rw [if_neg c] at hn
    exact absurd hn c
  rw [if_pos hst] at hn hn2
  have hch : chkD d = 0 := by
   by_cases c : chkD d = 0
   ·exact c
   ·rw [nStep_bad _ _ _ _ c] at hst
    exact absurd hst c
  rw [hch] at hst hn hn2
  rw [h5] at hr ⊢
  dsimp only at hr ⊢
  rw [List.length_append, List.length_singleton] at hl
  rcases pass_ops m loc st pre b false d.op d.A with ⟨h11, hp⟩ | ⟨h11, b', l, ho, k1, k2, k3, kl⟩
  ·rw [hp] at h4 hr ⊢
   have hfin : (finV st b false).2 = false := by
    have : ((finV st b false).2 || !(if b.op = 4 then ((b.ks.length : Int) == 0) else true)) = false := h4
    exact (Bool.or_eq_false_iff.1 this).1
   rw [h11] at hst hn hn2
   by_cases hbs : bs = []
   ·subst hbs
    obtain rfl : pre = [] := List.length_eq_zero_iff.1 (by simpa using hl)
    obtain ⟨b0, rest, e, q1, q2, q3⟩ := hf
    simp only [List.nil_append, List.cons.injEq] at e
    obtain ⟨rfl, _⟩ := e
    have hs1 : nStep 0 11 ([] : List Int) false = (0, [], true) := rfl
    rw [hs1] at hn hn2
    cases L with
    | cons y L =>
     exfalso
     rw [nRun] at hn
     by_cases c : chkD y = 0
     ·have : nStep (chkD y) y.op [] true = (4, [], true) := by
       unfold nStep
       rw [if_neg (fun q => q c), if_pos rfl]
      rw [this] at hn
      simp at hn
     ·rw [nStep_bad _ _ _ _ c] at hn
      dsimp only at hn
      rw [if_neg c] at hn
      exact c hn
    | nil =>
     rw [fin_zero q3 hfin, List.nil_append, q1]
     rw [List.nil_append, runV_cons]
     have hx : ((finV st b false).2 || !(if b.op = 4 then ((ks.length : Int) == 0) else true)) = false := by rw [← q1]; exact h4
     show (if (nextV m loc ⟨ks, [⟨2, ks, 0, false⟩], _⟩ (bareI 11)).1 = 0 then _ else _ : Int × Int).2 = 0
     rw [hx, end_all m loc ks hk, if_pos rfl]
     rfl
   ·obtain ⟨x, bs', rfl⟩ : ∃ x bs', bs = bs' ++ [x] := ⟨_, _, (List.dropLast_concat_getLast hbs).symm⟩
    have hs1 : nStep 0 11 (bs' ++ [x]) false = (0, bs', false) := by
     unfold nStep
     rw [if_neg (by simp), if_neg (by simp), if_neg (by decide), if_neg (by decide), if_pos rfl]
     rw [show (bs' ++ [x]).dropLast = bs' from List.dropLast_concat]
     cases bs' <;> rfl
    rw [hs1] at hn hn2
    rw [List.length_append, List.length_singleton] at hl
    have hpre : pre ≠ [] := by intro e; rw [e] at hl; simp at hl
    exact run_wrap m loc ks hk L bs' ⟨(finV st b false).1 ++ b.ks, pre, _⟩ (i + 1) (j + 1) h4 (hf.pre hpre) (by show pre.length = bs'.length + 1; omega) hn hn2 hr
  ·have hF : Fst ks (passV m loc st pre b false d.op d.A).ops := by rw [ho]; exact hf.swap k1 k2 k3 l
   have hlen : (passV m loc st pre b false d.op d.A).ops.length = (nStep 0 d.op bs false).2.1.length + 1 ∧ (nStep 0 d.op bs false).2.2 = false := by
    rw [ho, List.length_append, List.length_append, List.length_singleton, kl]
    revert hst
    unfold nStep
    rw [if_neg (by simp), if_neg (by simp)]
    by_cases c2 : d.op = 2 ∨ d.op = 3 ∨ d.op = 4
    ·rw [if_pos c2, if_pos c2]
     split
     ·exact fun e => absurd e (by simp)
     ·intro _
      simp
      omega
    rw [if_neg c2, if_neg c2]
    by_cases c5 : d.op = 5
    ·rw [if_pos c5]
     split
     ·rename_i e
      have hne : bs ≠ [] := by intro q; rw [q] at e; simp at e
      have := List.length_pos_iff.2 hne
      intro _
      simp
      omega
     ·exact fun e => absurd e (by simp)
    rw [if_neg c5, if_neg h11]
    intro _
    simp
    omega
   have e2 : (nStep 0 d.op bs false).2.2 = false := hlen.2
   rw [e2] at hn hn2
   exact run_wrap m loc ks hk L _ (passV m loc st pre b false d.op d.A) (i + 1) (j + 1) h4 hF hlen.1 hn hn2 hr
end Go.Proofs.YtgleeocebnjliaaGreatDoor
namespace Go.Proofs.YtgleeocebnjliaaGreatDoor
open Go.RowKit
set_option linter.unusedVariables false
def setM (m : ModD) (j : Nat) (d : FunD) (oF : Option Addr) (cF : Nat) : ModD := { m with oF := oF, cF := cF, funcs := m.funcs.set j d }
section
variable {m : ModD} {j : Nat} {d : FunD} {oF : Option Addr} {cF : Nat}
theorem set_at (hj : j < m.funcs.length) : ((setM m j d oF cF).funcs[j]!) = d := by
 have h : j < (setM m j d oF cF).funcs.length := by simp [setM, hj]
 rw [getElem!_pos (setM m j d oF cF).funcs j h]
 simp [setM]
theorem set_off {i : Nat} (hi : i ≠ j) : ((setM m j d oF cF).funcs[i]!) = m.funcs[i]! := by
 by_cases hl : i < m.funcs.length
 ·have h : i < (setM m j d oF cF).funcs.length := by simp [setM, hl]
  rw [getElem!_pos (setM m j d oF cF).funcs i h, getElem!_pos m.funcs i hl]
  simp [setM, Ne.symm hi]
 ·have h : ¬ i < (setM m j d oF cF).funcs.length := by simp [setM]; omega
  rw [getElem!_neg (setM m j d oF cF).funcs i h, getElem!_neg m.funcs i hl]
theorem set_like (hj : j < m.funcs.length) (ht : d.t = (m.funcs[j]!).t) : Like m (setM m j d oF cF) := by
 refine ⟨rfl, rfl, by simp [setM], fun i => ?_, rfl, rfl, rfl⟩
 by_cases hi : i = j
 ·subst hi
  rw [set_at hj]
  exact ht
 ·rw [set_off hi]
theorem set_head (hj : j < m.funcs.length) (ht : d.t = (m.funcs[j]!).t) (h : headErr m = 0) (hc' : mChk (setM m j d oF cF) = 0) : headErr (setM m j d oF cF) = 0 := by
 obtain ⟨hc, _⟩ := head_zero h
 have hmem : m.funcs[j]! ∈ m.funcs := by rw [getElem!_pos m.funcs j hj]; exact List.getElem_mem hj
 have hin : ∀ x ∈ (setM m j d oF cF).funcs, x ∈ m.funcs ∨ x = d := fun x hx => List.mem_or_eq_of_mem_set hx
 have lk := set_like (oF := oF) (cF := cF) hj ht
 have hlen : (setM m j d oF cF).funcs.length = m.funcs.length := lk.fl
 unfold headErr at h ⊢
 rw [if_pos hc] at h
 rw [if_pos hc']
 split at h
 ·rename_i q
  rw [Bool.and_eq_true] at q
  have q' : ((setM m j d oF cF).imports.all (fun x => decide (x.n < ((setM m j d oF cF).types.length : Int))) && (setM m j d oF cF).funcs.all (fun x => decide (x.t < ((setM m j d oF cF).types.length : Int)))) = true := by
   rw [Bool.and_eq_true]
   refine ⟨q.1, List.all_eq_true.2 fun x hx => ?_⟩
   have q2 := List.all_eq_true.1 q.2
   rcases hin x hx with hx | rfl
   ·exact q2 x hx
   ·rw [ht]
    exact q2 (m.funcs[j]!) hmem
  rw [if_pos q', hlen]
  have hs : startErr (setM m j d oF cF).types (setM m j d oF cF).imports (setM m j d oF cF).funcs (setM m j d oF cF).start = startErr m.types m.imports m.funcs m.start := by
   unfold startErr
   rw [lk.sig, hlen]
   rfl
  rw [hs]
  exact h
 ·exact absurd h (by decide)
end
theorem modE_chk {m : ModD} (h : mChk m ≠ 0) : modE m = mChk m := by
 have : headErr m = mChk m := by
  unfold headErr
  rw [if_neg h]
 unfold modE fstE
 rw [this, if_neg h]
def wrapI (k : Int) : InsD := ⟨2, k, 0, none, 0, 0, []⟩
def wrapB (k : Int) (L : List InsD) : List InsD := wrapI k :: (L ++ [bareI 11])
def kdV (ks : List Int) : Int := ks.getLastD 64
theorem kdV_ks {ks : List Int} (h : ks.length ≤ 1) (h64 : ∀ k ∈ ks, k ≠ 64) : ksOf (kdV ks) = ks := by
 match ks, h with
 | [], _ => rfl
 | [k], _ =>
  show ksOf k = [k]
  unfold ksOf
  rw [if_neg (h64 k (by simp))]
theorem step_block (m : ModD) (loc ks : List Int) (k : Int) (hk : ksOf k = ks) : nextV m loc ⟨[], [⟨2, ks, 0, false⟩], false⟩ (wrapI k) = (0, ⟨[], [⟨2, ks, 0, false⟩, ⟨2, ks, 0, false⟩], false⟩) := by
 have e : nextV m loc ⟨[], [] ++ [⟨2, ks, 0, false⟩], false⟩ (wrapI k) = stepV m loc [] [] ⟨2, ks, 0, false⟩ false 2 k [] := nextV_eq ..
 refine Eq.trans e ?_
 have hp : passV m loc [] [] ⟨2, ks, 0, false⟩ false 2 k = ⟨[], [⟨2, ks, 0, false⟩, ⟨2, ks, 0, false⟩], false⟩ := by
  show TrkV.mk [] ([⟨2, ks, 0, false⟩] ++ [⟨2, ksOf k, 0, false⟩]) false = _
  rw [hk]
  rfl
 rw [step_of rfl rfl rfl (by rw [hp]), hp]
theorem wrap_run (m : ModD) (loc ks : List Int) (k : Int) (hk : ksOf k = ks) (hl : ks.length ≤ 1) (L : List InsD) (hn : nChk L = 0) (hz : (runV m loc L 0 ⟨[], [⟨2, ks, 0, false⟩], false⟩).2 = 0) : (runV m loc (wrapB k L) 0 ⟨[], [⟨2, ks, 0, false⟩], false⟩).2 = 0 := by
 unfold wrapB
 rw [runV_cons, step_block m loc ks k hk, if_pos rfl]
 unfold nChk at hn
 split at hn
 ·exact absurd hn (by decide)
 have h1 : (nRun L [] false).1 = 0 := by
  by_cases c : (nRun L [] false).1 = 0
  ·exact c
  ·rw [if_neg c] at hn
   exact absurd hn c
 rw [if_pos h1] at hn
 have h2 : (nRun L [] false).2.2 = true := by
  split at hn
  ·assumption
  ·exact absurd hn (by decide)
 exact run_wrap m loc ks hl L [] ⟨[], [⟨2, ks, 0, false⟩], false⟩ 0 _ rfl ⟨_, _, rfl, rfl, by show (2 : Int) ≠ 3; decide, rfl⟩ rfl h1 h2 hz
theorem kind_not64 {k : Int} (h : chkKind k = 0) : k = 127 ∨ k = 126 := by
 unfold chkKind okE at h
 split at h
 ·rename_i e
  unfold isK at e
  simpa using e
 ·exact absurd h (by decide)
theorem out_kinds {w : World} {m : ModD} (hm : m.ok w) (h : mChk m = 0) : ∀ d ∈ m.types, d.r.xs.length ≤ 1 ∧ ∀ k ∈ d.r.xs, k = 127 ∨ k = 126 := by
 unfold mChk at h
 obtain ⟨h1, h⟩ := fstE_eq0 h
 have a1 := chkL_eq0 h1
 intro d hd
 have b2 := chkL_eq0 (fstE_eq0 (a1.2 d hd)).2
 exact ⟨by have := b2.1; omega, fun k hk => kind_not64 (b2.2 k hk)⟩
theorem wrap_sound {w : World} {m : ModD} {j : Nat} {oF : Option Addr} {cF : Nat} (hm : m.ok w) (hj : j < m.funcs.length) (h : modE m = 0) (d : FunD) (hdt : d.t = (m.funcs[j]!).t) (hdl : d.l = (m.funcs[j]!).l) (hdb : d.b = wrapB (kdV (m.types[(m.funcs[j]!).t.toNat]!).r.xs) (m.funcs[j]!).b) (hc' : mChk (setM m j d oF cF) = 0) : modE (setM m j d oF cF) = 0 := by
 obtain ⟨h1, h2⟩ := mod_zero h
 have hc := (head_zero h1).1
 have sm := mod_small hm hc
 have lk := set_like (m := m) (d := d) (oF := oF) (cF := cF) hj hdt
 unfold modE
 rw [set_head hj hdt h1 hc', frst_zero fun i hi => ?_]
 ·rfl
 ·have hi' : i < m.funcs.length := by
   rw [lk.fl, List.mem_range'_1] at hi
   omega
  have hz := h2 i hi'
  unfold firstV at hz ⊢
  rw [lk.run, lk.ty]
  by_cases e : i = j
  ·subst e
   rw [set_at hj, hdt, hdl, hdb]
   have hmem : m.funcs[i]! ∈ m.funcs := by rw [getElem!_pos m.funcs i hj]; exact List.getElem_mem hj
   have hr : (m.types[(m.funcs[i]!).t.toNat]!).r.xs.length ≤ 1 ∧ ∀ k ∈ (m.types[(m.funcs[i]!).t.toNat]!).r.xs, k = 127 ∨ k = 126 := by
    by_cases ht : (m.funcs[i]!).t.toNat < m.types.length
    ·rw [getElem!_pos m.types _ ht]
     exact out_kinds hm hc _ (List.getElem_mem ht)
    ·rw [getElem!_neg m.types _ ht]
     exact ⟨Nat.zero_le _, fun k hk => by cases hk⟩
   exact wrap_run m _ _ _ (kdV_ks hr.1 (fun k hk => by have := hr.2 k hk; omega)) hr.1 _ (sm.2 _ hmem).1 hz
  ·rw [set_off e]
   exact hz
theorem set_ok {m : ModD} {j g cF B : Nat} {d : FunD} {w z3 z5 : World} (hm : m.ok w) (hj : j < m.funcs.length) (hB : Below w.heap.size w z5) (hrow : z3.ownsRow B 57 3 (.slice (some ⟨g, 0, none⟩) m.funcs.length cF) m.funcs.length (m.funcs.flatMap FunD.cells)) (hd : d.ok z5)
  (hset : ∀ i r, i ≠ j → r < 3 → z5.cell? ⟨g, i * 3 + r, none⟩ = z3.cell? ⟨g, i * 3 + r, none⟩) (hnew : ∀ r, r < 3 → z5.cell? ⟨g, j * 3 + r, none⟩ = (FunD.cells d)[r]?) (hg : g < z5.heap.size) : (setM m j d (some ⟨g, 0, none⟩) cF).ok z5 := by
 have h5 := hm.below hB
 have hcap : m.funcs.length ≤ cF ∧ cF ≤ maxLen := by
  rcases hrow.2 with ⟨h1, _⟩ | ⟨g', c', cur, h1, _, _, h3, h4, _⟩
  ·cases h1
  ·simp only [Value.slice.injEq] at h1
   obtain ⟨_, _, rfl⟩ := h1
   exact ⟨h3, h4⟩
 have hF : RowsOf z5 3 FunD.cells FunD.ok (some ⟨g, 0, none⟩) cF (m.funcs.set j d) := by
  refine ⟨by rw [List.length_set]; exact hcap.1, hcap.2, (fun h => by cases h), fun x hx => ?_, Or.inr ⟨g, 0, rfl, hg, fun i hi r hr => ?_⟩⟩
  ·rcases List.mem_or_eq_of_mem_set hx with q | rfl
   ·exact h5.funcs.all x q
   ·exact hd
  ·have hi' : i < m.funcs.length := by rwa [List.length_set] at hi
   have ho : z3.cell? ⟨g, i * 3 + r, none⟩ = (FunD.cells m.funcs[i])[r]? := (hrow.cellAt (i * 3 + r) (by omega)).trans (flat_at FunD.cells 3 (fun _ => rfl) m.funcs i r hi' hr)
   rw [Nat.zero_add]
   by_cases e : i = j
   ·subst e
    rw [List.getElem_set_self]
    exact hnew r hr
   ·rw [List.getElem_set_ne (by omega), hset i r e hr, ho]
 exact ⟨h5.types, h5.imports, hF, h5.table, h5.pages, h5.most, h5.globals, h5.exports, h5.start, h5.elems, h5.data⟩
end Go.Proofs.YtgleeocebnjliaaGreatDoor
namespace Go.Proofs.YtgleeocebnjliaaGreatDoor
open Go.RowKit
set_option linter.unusedVariables false
theorem vwrapped (b f n cap : Nat) (L : List InsD) (hn : L.length = n) (h200 : n ≤ 200) (hpos : 0 < n) (k : Int) (h0 : 0 ≤ k) (h1 : k ≤ 255) (w : World) (hbw : b < w.heap.size) (hok : ∀ d ∈ L, d.ok w) (hcs : ∀ j u, (cellsOf L)[j]? = some u → w.cell? ⟨b, f + j, none⟩ = some u) :
  Calls Tryz.prog 28 #[.slice (some ⟨b, f, none⟩) n cap, .int .u8 2, .int .u8 k] w fun r w' => ∃ g cap', r = .returned (.slice (some ⟨g, 0, none⟩) (n + 2) cap') ∧ w'.ownsRow w.heap.size 66 4 (.slice (some ⟨g, 0, none⟩) (n + 2) cap') (n + 2) (cellsOf (wrapB k L)) ∧ w.heap.size ≤ g ∧ Below w.heap.size w w' := by
 obtain ⟨i0, hi, hz0, hz1, hz2⟩ := info_parts infoI9
 have bA : Below w.heap.size w (w.alloc (.cells #[.int .u8 2, .int .i64 k, .int .i64 0, .slice none 0 0] 66)) := (Below.refl _ _).alloc (Nat.le_refl _) _
 have HN : Hid (∀ j u, (cellsOf L)[j]? = some u → (w.alloc (.cells #[.int .u8 2, .int .i64 k, .int .i64 0, .slice none 0 0] 66)).cell? ((⟨b, f, none⟩ : Addr).add j) = some u) := fun j u hu => by
  rw [show (⟨b, f, none⟩ : Addr).add j = ⟨b, f + j, none⟩ from by unfold Addr.add; split <;> simp_all, bA.cell (p := ⟨b, f + j, none⟩) hbw]
  exact hcs j u hu
 have HOK : Hid (∀ d ∈ L, d.ok w) := hok
 have HL : Hid ((cellsOf L).length = n * 4) := by rw [← hn]; exact cellsOf_len L
 have HLn : Hid (L.length = n) := hn
 have HB0 : Hid (type_of% bA) := bA
 have HOW : Hid (World.ownsRow (w.alloc (.cells #[.int .u8 2, .int .i64 k, .int .i64 0, .slice none 0 0] 66)) w.heap.size 66 4 (.slice (some ⟨w.heap.size, 0, none⟩) 1 1) 1 [.int .u8 2, .int .i64 k, .int .i64 0, .slice none 0 0]) := World.ownsRow_lit w #[.int .u8 2, .int .i64 k, .int .i64 0, .slice none 0 0] 1 (Nat.le_refl _) (by unfold maxLen; omega) rfl
 clear hok bA hn hcs hbw
 go_enter Tryz.func28, Tryz.ntmps28
 go_wp2_with (at_builtin; refine wpList_append_lies _ rfl _ _ 55 rfl w.heap.size 66 i0 (.agg #[.int .u8 0, .int .i64 0, .int .i64 0, .slice none 0 0]) 4 48 Tryz.underlying55 hi hz0 hz1 hz2 rfl (by omega) _ 1 [.int .u8 2, .int .i64 k, .int .i64 0, .slice none 0 0] rfl HOW.out ⟨b, f, none⟩ n cap (cellsOf L) rfl HL.out HN.out (cellsOf_one L) (by omega) (by unfold maxLen; omega) (by omega) (by simp) (w.heap.size + 1) (by simp) ?_)
 intro g capg w2 hown hgrow hat hlt
 have hb2 : Below w.heap.size w w2 := HB0.out.grown hgrow (by simp) (fun j hj => (HOW.out.lt j hj).1)
 have hs2 := hb2.size
 have HB2 : Hid (Below w.heap.size w w2) := hb2
 have HO2 : Hid (type_of% hown) := hown
 clear hown hgrow hat hlt hb2 HN HOW HB0
 go_wp2_with (at_builtin; refine wpList_append_lies _ rfl _ _ 55 rfl w.heap.size 66 i0 (.agg #[.int .u8 0, .int .i64 0, .int .i64 0, .slice none 0 0]) 4 48 Tryz.underlying55 hi hz0 hz1 hz2 rfl (by omega) _ (1 + n) _ rfl (HO2.out.alloc _) ⟨w2.heap.size, 0, none⟩ 1 1 [.int .u8 11, .int .i64 0, .int .i64 0, .slice none 0 0] rfl rfl (World.news_of_block (cs := #[.int .u8 11, .int .i64 0, .int .i64 0, .slice none 0 0]) (t := 66) (fr := (0, 0)) (heap_alloc_new w2 _)) (by simp [Value.oneCell']) (by omega) (by unfold maxLen; omega) (by omega) (by simp; omega) (w2.heap.size + 1) (by simp) ?_)
 intro g3 cap3 w3 hown hgrow hat hlt
 have hb3 : Below w.heap.size w w3 := (HB2.out.alloc (by omega) _).grown hgrow (by simp; omega) (fun j hj => (HO2.out.lt j hj).1)
 have HB3 : Hid (Below w.heap.size w w3) := hb3
 have HO3 : Hid (type_of% hown) := hown
 clear hown hgrow hat hlt hb3
 go_wp2
 go_ret
 have e : [Value.int .u8 2, .int .i64 k, .int .i64 0, .slice none 0 0] ++ cellsOf L ++ [.int .u8 11, .int .i64 0, .int .i64 0, .slice none 0 0] = cellsOf (wrapB k L) := by
  unfold wrapB cellsOf
  rw [List.flatMap_cons, List.flatMap_append]
  rfl
 have ho : w3.ownsRow w.heap.size 66 4 (.slice (some ⟨g3, 0, none⟩) (1 + n + 1) cap3) (1 + n + 1) (cellsOf (wrapB k L)) := by
  rw [← e]
  exact HO3.out
 have e2 : 1 + n + 1 = n + 2 := by omega
 rw [e2] at ho ⊢
 exact ⟨g3, cap3, rfl, ho, own_base ho (i := g3) rfl, HB3.out⟩
theorem set_put {m : ModD} {j g cF B : Nat} {d : FunD} {w v w4 : World} (hm : m.ok w) (hj : j < m.funcs.length) (hvw : Below w.heap.size w v) (hB0 : w.heap.size ≤ B) (how : v.ownsRow B 57 3 (.slice (some ⟨g, 0, none⟩) m.funcs.length cF) m.funcs.length (m.funcs.flatMap FunD.cells)) (h4 : Below v.heap.size v w4)
  (hdt : d.t = (m.funcs[j]!).t) (hdl : d.l = (m.funcs[j]!).l) (x : Value) (hx : x = .slice d.o d.b.length d.cap) (hd : d.ok (w4.setCell ⟨g, j * 3 + 2, none⟩ x)) : (setM m j d (some ⟨g, 0, none⟩) cF).ok (w4.setCell ⟨g, j * 3 + 2, none⟩ x) ∧ Below w.heap.size w (w4.setCell ⟨g, j * 3 + 2, none⟩ x) := by
 have hgB : B ≤ g := own_base how (i := g) rfl
 obtain ⟨cur, t, fz, hgc⟩ : ∃ cur t fz, v.heap[g]? = some (.cells cur t fz) := by
  rcases how.2 with ⟨h1, _⟩ | ⟨g', c', cur, h1, _, h3, _⟩
  ·cases h1
  ·simp only [Value.slice.injEq, Option.some.injEq, Addr.mk.injEq] at h1
   obtain ⟨⟨rfl, _⟩, _⟩ := h1
   exact ⟨_, _, _, h3⟩
 have hgv := some_lt hgc
 have hb4 := h4.block g hgv
 have hgc4 := hb4.trans hgc
 have hch : Chg g w4 (w4.setCell ⟨g, j * 3 + 2, none⟩ x) := Chg.set _ _ _ _
 have hs := hvw.size
 have hs4 := h4.size
 have hz : Below w.heap.size w (w4.setCell ⟨g, j * 3 + 2, none⟩ x) := (hvw.trans (h4.mono hs)).trans (hch.below (by omega) (by omega))
 refine ⟨set_ok hm hj hz how hd (fun i r hi hr => ?_) (fun r hr => ?_) (by have := hch.size; omega), hz⟩
 ·refine Eq.trans ?_ (World.cell?_of_block hb4)
  have : i * 3 + r ≠ j * 3 + 2 := by omega
  simp [World.cell?, World.setCell, Array.getElem?_modify, hgc4, Ne.symm this]
 ·have a (r : Nat) (hr : r < 3) : w4.cell? ⟨g, j * 3 + r, none⟩ = (FunD.cells (m.funcs[j]!))[r]? := by
   refine (World.cell?_of_block hb4).trans ?_
   rw [how.cellAt (j * 3 + r) (by omega), flat_at FunD.cells 3 (fun _ => rfl) m.funcs j r hj hr, getElem!_pos m.funcs j hj]
  have hr3 : r = 0 ∨ r = 1 ∨ r = 2 := by omega
  have off (p : Nat) (hp : p ≠ j * 3 + 2) : (w4.setCell ⟨g, j * 3 + 2, none⟩ x).cell? ⟨g, p, none⟩ = w4.cell? ⟨g, p, none⟩ := by
   simp [World.cell?, World.setCell, Array.getElem?_modify, hgc4, Ne.symm hp]
  rcases hr3 with rfl | rfl | rfl
  ·rw [off _ (by omega), a 0 (by omega)]
   show some (Value.int .i64 (m.funcs[j]!).t) = some (Value.int .i64 d.t)
   rw [hdt]
  ·rw [off _ (by omega), a 1 (by omega)]
   show some ((m.funcs[j]!).l.v) = some d.l.v
   rw [hdl]
  ·have hcz : j * 3 + 2 < cur.size := by
    have := a 2 (by omega)
    simp [World.cell?, hgc4, FunD.cells] at this
    exact (Array.getElem?_eq_some_iff.1 this).1
   rw [hx]
   simp [World.cell?, World.setCell, Array.getElem?_modify, hgc4, hcz, FunD.cells]
end Go.Proofs.YtgleeocebnjliaaGreatDoor
