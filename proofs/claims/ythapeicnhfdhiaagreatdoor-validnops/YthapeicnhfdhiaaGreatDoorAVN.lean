/-
 A body with one instruction more: what is the same.
 Who knows less finds no more wrong: what is known behind an unreachable against what is known without it.
 A nop or an unreachable more leaves a sound module sound: over values.
 A body with one instruction more, in memory.
 The laws' own put.
-/
import Derived.Test.YthapeicnhfdhiaaGreatDoorAVM
import Derived.Test.YthapeicnhfdhiaaGreatDoorARZ
set_option maxHeartbeats 8000000
set_option maxRecDepth 1000000
namespace Go.Proofs.YthapeicnhfdhiaaGreatDoor
open Go.RowKit
set_option linter.unusedVariables false
structure Like (m n : ModD) : Prop where
 ty : n.types = m.types
 im : n.imports = m.imports
 fl : n.funcs.length = m.funcs.length
 ft : ∀ k : Nat, (n.funcs[k]!).t = (m.funcs[k]!).t
 gl : n.globals = m.globals
 tb : n.table = m.table
 mo : n.most = m.most
theorem Like.there {m n : ModD} (h : Like m n) (nl no : Nat) (op a : Int) (xs : List Int) : thereK n nl no op a xs = thereK m nl no op a xs := by
 unfold thereK
 rw [h.ty, h.im, h.fl, h.gl, h.tb, h.mo]
theorem Like.sig {m n : ModD} (h : Like m n) (k : Nat) : sigAt n.types n.imports n.funcs k = sigAt m.types m.imports m.funcs k := by
 unfold sigAt
 rw [h.ty, h.im, h.ft]
theorem Like.eff {m n : ModD} (h : Like m n) (loc : List Int) (ops : List BlkV) (op a : Int) : effV n loc ops op a = effV m loc ops op a := by
 unfold effV
 rw [h.sig, h.ty, h.gl]
theorem Like.allowed {m n : ModD} (h : Like m n) (ops : List BlkV) (op a : Int) (xs : List Int) : allowedV n ops op a xs = allowedV m ops op a xs := by
 unfold allowedV
 rw [h.gl]
theorem Like.step {m n : ModD} (h : Like m n) (loc st : List Int) (pre : List BlkV) (b : BlkV) (bad : Bool) (op a : Int) (xs : List Int) : stepV n loc st pre b bad op a xs = stepV m loc st pre b bad op a xs := by
 unfold stepV passV pass1
 simp only [h.there, h.eff, h.allowed]
theorem Like.next {m n : ModD} (h : Like m n) (loc : List Int) (T : TrkV) (d : InsD) : nextV n loc T d = nextV m loc T d := by
 unfold nextV
 split
 ·rfl
 ·exact h.step ..
theorem Like.run {m n : ModD} (h : Like m n) (loc : List Int) : ∀ (L : List InsD) (i : Nat) (T : TrkV), runV n loc L i T = runV m loc L i T
 | [], _, _ => rfl
 | d :: L, i, T => by
  unfold runV
  rw [h.next, h.run loc L]
theorem runV_cons (m : ModD) (loc : List Int) (d : InsD) (L : List InsD) (i : Nat) (T : TrkV) : runV m loc (d :: L) i T = if (nextV m loc T d).1 = 0 then runV m loc L (i + 1) (nextV m loc T d).2 else ((i : Int), (nextV m loc T d).1) := rfl
theorem run_idx (m : ModD) (loc : List Int) : ∀ (L : List InsD) (i j : Nat) (T : TrkV), (runV m loc L i T).2 = (runV m loc L j T).2
 | [], _, _, _ => rfl
 | d :: L, i, j, T => by
  unfold runV
  split
  ·exact run_idx m loc L _ _ _
  ·rfl
def stV (m : ModD) (loc : List Int) : List InsD → TrkV → TrkV
 | [], T => T
 | d :: L, T => stV m loc L (nextV m loc T d).2
theorem run_append (m : ModD) (loc : List Int) (B : List InsD) : ∀ (A : List InsD) (i : Nat) (T : TrkV), (runV m loc (A ++ B) i T).2 = 0 ↔ (runV m loc A i T).2 = 0 ∧ (runV m loc B 0 (stV m loc A T)).2 = 0
 | [], i, T => by
  show (runV m loc B i T).2 = 0 ↔ (0 : Int) = 0 ∧ (runV m loc B 0 T).2 = 0
  rw [run_idx m loc B i 0 T]
  exact ⟨fun h => ⟨rfl, h⟩, fun h => h.2⟩
 | d :: A, i, T => by
  rw [List.cons_append]
  rw [runV_cons, runV_cons]
  show _ ↔ _ ∧ (runV m loc B 0 (stV m loc A (nextV m loc T d).2)).2 = 0
  by_cases h : (nextV m loc T d).1 = 0
  ·rw [if_pos h, if_pos h]
   exact run_append m loc B A (i + 1) _
  ·rw [if_neg h, if_neg h]
   exact ⟨fun e => absurd e h, fun e => absurd e.1 h⟩
def bareI (op : Int) : InsD := ⟨op, 0, 0, none, 0, 0, []⟩
theorem stepV_nop (m : ModD) (loc st : List Int) (pre : List BlkV) (b : BlkV) : stepV m loc st pre b false 1 0 [] = (0, ⟨st, pre ++ [b], false⟩) := by
 have h1 : thereK m loc.length (pre.length + 1) 1 0 [] = true := rfl
 have h2 : allowedV m (pre ++ [b]) 1 0 [] = true := rfl
 have h3 : effV m loc (pre ++ [b]) 1 0 = ([], []) := rfl
 have h4 : passV m loc st pre b (false || !true) 1 0 = ⟨st, pre ++ [b], false⟩ := by
  show pass1 m loc st pre b false 1 0 = _
  show TrkV.mk ((tksV b (effV m loc (pre ++ [b]) 1 0).1.reverse (st, false)).1 ++ (effV m loc (pre ++ [b]) 1 0).2) (pre ++ [b]) (tksV b (effV m loc (pre ++ [b]) 1 0).1.reverse (st, false)).2 = _
  rw [h3]
  show TrkV.mk (st ++ []) (pre ++ [b]) false = _
  rw [List.append_nil]
 unfold stepV
 rw [h1, h2, h4]
 rfl
theorem stepV_unr (m : ModD) (loc st : List Int) (pre : List BlkV) (b : BlkV) : stepV m loc st pre b false 0 0 [] = (0, ⟨st.take b.base, pre ++ [{ b with dead := true }], false⟩) := by
 have h1 : thereK m loc.length (pre.length + 1) 0 0 [] = true := rfl
 have h2 : allowedV m (pre ++ [b]) 0 0 [] = true := rfl
 have h3 : effV m loc (pre ++ [b]) 0 0 = ([], []) := rfl
 have h4 : passV m loc st pre b (false || !true) 0 0 = ⟨st.take b.base, pre ++ [{ b with dead := true }], false⟩ := by
  have h5 : pass1 m loc st pre b false 0 0 = ⟨st, pre ++ [b], false⟩ := by
   show TrkV.mk ((tksV b (effV m loc (pre ++ [b]) 0 0).1.reverse (st, false)).1 ++ (effV m loc (pre ++ [b]) 0 0).2) (pre ++ [b]) (tksV b (effV m loc (pre ++ [b]) 0 0).1.reverse (st, false)).2 = _
   rw [h3]
   show TrkV.mk (st ++ []) (pre ++ [b]) false = _
   rw [List.append_nil]
  show TrkV.mk ((pass1 m loc st pre b false 0 0).st.take b.base) (pre ++ [{ b with dead := true }]) (pass1 m loc st pre b false 0 0).bad = _
  rw [h5]
 unfold stepV
 rw [h1, h2, h4]
 rfl
theorem run_nop (m : ModD) (loc : List Int) (B : List InsD) (T : TrkV) (ho : T.ops ≠ []) (hb : T.bad = false) : (runV m loc (bareI 1 :: B) 0 T).2 = (runV m loc B 0 T).2 := by
 obtain ⟨st, ops, bad⟩ := T
 dsimp only at ho hb
 subst hb
 obtain ⟨pre, b, rfl⟩ : ∃ pre b, ops = pre ++ [b] := ⟨_, _, (List.dropLast_concat_getLast ho).symm⟩
 have h : nextV m loc ⟨st, pre ++ [b], false⟩ (bareI 1) = (0, ⟨st, pre ++ [b], false⟩) := (nextV_eq ..).trans (stepV_nop ..)
 rw [runV_cons, h, if_pos rfl]
 exact run_idx ..
theorem nRun_more {x : InsD} (hx : chkD x = 0) (h2 : ¬ (x.op = 2 ∨ x.op = 3 ∨ x.op = 4)) (h5 : x.op ≠ 5) (h11 : x.op ≠ 11) {B : List InsD} (hB : B ≠ []) : ∀ (A : List InsD) (bs : List Int) (en : Bool), (nRun (A ++ B) bs en).1 = 0 → nRun (A ++ x :: B) bs en = nRun (A ++ B) bs en
 | [], bs, en, h => by
  have he : en = false := by
   cases en with
   | false => rfl
   | true =>
    cases B with
    | nil => exact absurd rfl hB
    | cons y B =>
     exfalso
     have h' : (nRun (y :: B) bs true).1 = 0 := h
     unfold nRun at h'
     by_cases hc : chkD y = 0
     ·have e : nStep (chkD y) y.op bs true = (4, bs, true) := by
       unfold nStep
       rw [if_neg (fun q => q hc), if_pos rfl]
      rw [e] at h'
      simp at h'
     ·have e : nStep (chkD y) y.op bs true = (chkD y, bs, true) := by
       unfold nStep
       rw [if_pos hc]
      rw [e] at h'
      dsimp only at h'
      rw [if_neg hc] at h'
      exact hc h'
  have e : nStep (chkD x) x.op bs en = (0, bs, en) := by
   unfold nStep
   rw [if_neg (fun q => q hx), he, if_neg (by decide), if_neg h2, if_neg h5, if_neg h11]
  show nRun (x :: B) bs en = nRun B bs en
  rw [nRun, e, if_pos rfl]
 | a :: A, bs, en, h => by
  rw [List.cons_append] at h ⊢
  rw [nRun] at h
  rw [List.cons_append, nRun, nRun]
  split
  ·rename_i hz
   rw [if_pos hz] at h
   exact nRun_more hx h2 h5 h11 hB A _ _ h
  ·rfl
theorem nChk_more {x : InsD} (hx : chkD x = 0) (h2 : ¬ (x.op = 2 ∨ x.op = 3 ∨ x.op = 4)) (h5 : x.op ≠ 5) (h11 : x.op ≠ 11) {A B : List InsD} (hB : B ≠ []) (h : nChk (A ++ B) = 0) (hl : (A ++ B).length < 200) : nChk (A ++ x :: B) = 0 := by
 unfold nChk at h ⊢
 rw [if_neg (by omega)] at h
 rw [if_neg (by simp only [List.length_append, List.length_cons] at hl ⊢; omega)]
 have h0 : (nRun (A ++ B) [] false).1 = 0 := by
  by_cases c : (nRun (A ++ B) [] false).1 = 0
  ·exact c
  ·rw [if_neg c] at h
   exact absurd h c
 rw [nRun_more hx h2 h5 h11 hB A [] false h0]
 exact h
end Go.Proofs.YthapeicnhfdhiaaGreatDoor
namespace Go.Proofs.YthapeicnhfdhiaaGreatDoor
open Go.RowKit
set_option linter.unusedVariables false
inductive Two (R : Int → Int → Prop) : List Int → List Int → Prop
 | nil : Two R [] []
 | cons {x y : Int} {a b : List Int} (h : R x y) (t : Two R a b) : Two R (x :: a) (y :: b)
def SegR (dead : Bool) (g g' : List Int) : Prop := ∃ p q : List Int, g = p ++ q ∧ (dead = false → p = []) ∧ Two (fun x x' => x' = x ∨ x' = 0) q g'
inductive Sim : List BlkV → List Int → List BlkV → List Int → Prop
 | nil (st st' : List Int) : Sim [] st [] st'
 | snoc {pre : List BlkV} {r : List Int} {pre' : List BlkV} {r' : List Int} (b b' : BlkV) (g g' : List Int) (h : Sim pre r pre' r') (hop : b'.op = b.op) (hks : b'.ks = b.ks) (hb : b.base = r.length) (hb' : b'.base = r'.length) (hd : b.dead = true → b'.dead = true) (hg : SegR b'.dead g g') : Sim (pre ++ [b]) (r ++ g) (pre' ++ [b']) (r' ++ g')
theorem forall2_snoc {R : Int → Int → Prop} {q : List Int} {g : List Int} {x : Int} (h : Two R q (g ++ [x])) : ∃ q0 y, q = q0 ++ [y] ∧ Two R q0 g ∧ R y x := by
 induction g generalizing q with
 | nil =>
  cases h with
  | cons h1 h2 => cases h2; exact ⟨[], _, rfl, .nil, h1⟩
 | cons z g ih =>
  cases h with
  | cons h1 h2 =>
   obtain ⟨q0, y, rfl, h3, h4⟩ := ih h2
   exact ⟨_ :: q0, y, rfl, .cons h1 h3, h4⟩
theorem forall2_app {R : Int → Int → Prop} {a b c d : List Int} (h1 : Two R a b) (h2 : Two R c d) : Two R (a ++ c) (b ++ d) := by
 induction h1 with
 | nil => exact h2
 | cons h _ ih => exact .cons h ih
theorem forall2_same (l : List Int) : Two (fun x x' : Int => x' = x ∨ x' = 0) l l := by
 induction l with
 | nil => exact .nil
 | cons x l ih => exact .cons (Or.inl rfl) ih
theorem SegR.push {dead : Bool} {g g' : List Int} (h : SegR dead g g') {l l' : List Int} (hl : Two (fun x x' => x' = x ∨ x' = 0) l l') : SegR dead (g ++ l) (g' ++ l') := by
 obtain ⟨p, q, rfl, h1, h2⟩ := h
 exact ⟨p, q ++ l, by rw [List.append_assoc], h1, forall2_app h2 hl⟩
theorem SegR.nil (dead : Bool) : SegR dead [] [] := ⟨[], [], rfl, fun _ => rfl, .nil⟩
theorem takeV_nil (k : Int) (r : List Int) (b : BlkV) (bad : Bool) (hb : b.base = r.length) : takeV k (r ++ []) b bad = (k, r ++ [], bad || !b.dead) := by
 unfold takeV
 rw [if_pos (by rw [hb]; simp)]
theorem takeV_snoc (k : Int) (r g : List Int) (x : Int) (b : BlkV) (bad : Bool) (hb : b.base = r.length) : takeV k (r ++ (g ++ [x])) b bad = (if k = 0 then x else k, r ++ g, if k = 0 then bad else bad || !(x == k || x == 0)) := by
 unfold takeV
 rw [if_neg (by rw [hb]; simp), ← List.append_assoc]
 simp
theorem take_sim {k k' : Int} (hk : k' = k ∨ k' = 0) {r g r' g' : List Int} {b b' : BlkV} (hb : b.base = r.length) (hb' : b'.base = r'.length) (hd : b.dead = true → b'.dead = true) (hg : SegR b'.dead g g') (hz : (takeV k (r ++ g) b false).2.2 = false) :
  (takeV k' (r' ++ g') b' false).2.2 = false ∧ ((takeV k' (r' ++ g') b' false).1 = (takeV k (r ++ g) b false).1 ∨ (takeV k' (r' ++ g') b' false).1 = 0) ∧ ∃ g1 g1', (takeV k (r ++ g) b false).2.1 = r ++ g1 ∧ (takeV k' (r' ++ g') b' false).2.1 = r' ++ g1' ∧ SegR b'.dead g1 g1' := by
 obtain ⟨p, q, rfl, hp, hq⟩ := hg
 rcases List.eq_nil_or_concat g' with rfl | ⟨g0, x', rfl⟩
 ·cases hq
  rw [List.append_nil p] at hz ⊢
  rw [takeV_nil _ _ _ _ hb']
  rcases List.eq_nil_or_concat p with rfl | ⟨p0, y, rfl⟩
  ·rw [takeV_nil _ _ _ _ hb] at hz ⊢
   have hbd : b.dead = true := by simpa using hz
   refine ⟨by simp [hd hbd], hk, [], [], rfl, rfl, SegR.nil _⟩
  ·have hdd : b'.dead = true := by
    cases h : b'.dead with
    | true => rfl
    | false => have := hp h; simp at this
   rw [List.concat_eq_append] at hz ⊢
   rw [takeV_snoc _ _ _ _ _ _ hb] at hz ⊢
   refine ⟨by simp [hdd], ?_, p0, [], rfl, rfl, p0, [], by simp, (fun h => by rw [hdd] at h; cases h), .nil⟩
   show k' = (if k = 0 then y else k) ∨ k' = 0
   split
   ·exact Or.inr (by omega)
   ·exact hk
 ·rw [List.concat_eq_append] at hq ⊢
  obtain ⟨q0, x, rfl, h1, h2⟩ := forall2_snoc hq
  rw [← List.append_assoc p] at hz ⊢
  rw [takeV_snoc _ _ _ _ _ _ hb] at hz ⊢
  rw [takeV_snoc _ _ _ _ _ _ hb']
  refine ⟨?_, ?_, p ++ q0, g0, rfl, rfl, p, q0, rfl, hp, h1⟩
  ·dsimp only at hz ⊢
   by_cases k0 : k' = 0
   ·rw [if_pos k0]
   ·have e : k' = k := hk.resolve_right k0
    rw [if_neg k0]
    rw [if_neg (by omega)] at hz
    rcases h2 with rfl | rfl
    ·rw [e]; exact hz
    ·simp
  ·dsimp only at hz ⊢
   by_cases k0 : k' = 0
   ·rw [if_pos k0]
    by_cases c : k = 0
    ·rw [if_pos c]; exact h2
    ·rw [if_neg c] at hz ⊢
     rcases h2 with rfl | rfl
     ·have : ¬ x' = k → x' = 0 := by simpa using hz
      by_cases c2 : x' = k
      ·exact Or.inl c2
      ·exact Or.inr (this c2)
     ·exact Or.inr rfl
   ·have e : k' = k := hk.resolve_right k0
    rw [if_neg k0, if_neg (by omega)]
    exact Or.inl e
theorem takeV_bad (k : Int) (st : List Int) (b : BlkV) : (takeV k st b true).2.2 = true := by
 unfold takeV
 split
 ·rfl
 ·dsimp only
  split <;> rfl
theorem tksV_cons (b : BlkV) (k : Int) (l : List Int) (s : List Int × Bool) : tksV b (k :: l) s = tksV b l ((takeV k s.1 b s.2).2.1, (takeV k s.1 b s.2).2.2) := rfl
theorem tksV_bad (b : BlkV) : ∀ (l : List Int) (st : List Int), (tksV b l (st, true)).2 = true
 | [], _ => rfl
 | k :: l, st => by
  rw [tksV_cons]
  show (tksV b l ((takeV k st b true).2.1, (takeV k st b true).2.2)).2 = true
  rw [takeV_bad]
  exact tksV_bad b l _
theorem tks_sim {r r' : List Int} {b b' : BlkV} (hb : b.base = r.length) (hb' : b'.base = r'.length) (hd : b.dead = true → b'.dead = true) : ∀ (l : List Int) {g g' : List Int}, SegR b'.dead g g' → (tksV b l (r ++ g, false)).2 = false →
  (tksV b' l (r' ++ g', false)).2 = false ∧ ∃ g1 g1', (tksV b l (r ++ g, false)).1 = r ++ g1 ∧ (tksV b' l (r' ++ g', false)).1 = r' ++ g1' ∧ SegR b'.dead g1 g1'
 | [], g, g', hg, hz => ⟨rfl, g, g', rfl, rfl, hg⟩
 | k :: l, g, g', hg, hz => by
  rw [tksV_cons] at hz ⊢
  rw [tksV_cons]
  dsimp only at hz ⊢
  have h0 : (takeV k (r ++ g) b false).2.2 = false := by
   cases h : (takeV k (r ++ g) b false).2.2 with
   | false => rfl
   | true => rw [h, tksV_bad] at hz; cases hz
  obtain ⟨h1, _, g1, g1', e1, e2, hg1⟩ := take_sim (Or.inl rfl) hb hb' hd hg h0
  rw [h0, e1] at hz ⊢
  rw [h1, e2]
  exact tks_sim hb hb' hd l hg1 hz
theorem SegR.none {dead : Bool} {g' : List Int} (h : SegR dead [] g') : g' = [] := by
 obtain ⟨p, q, e, _, h2⟩ := h
 have : q = [] := (List.append_eq_nil_iff.1 e.symm).2
 subst this
 cases h2
 rfl
theorem fin_sim {r r' g g' : List Int} {b b' : BlkV} (hks : b'.ks = b.ks) (hb : b.base = r.length) (hb' : b'.base = r'.length) (hd : b.dead = true → b'.dead = true) (hg : SegR b'.dead g g') (hz : (finV (r ++ g) b false).2 = false) :
  finV (r ++ g) b false = (r, false) ∧ finV (r' ++ g') b' false = (r', false) := by
 unfold finV at hz ⊢
 rw [Bool.or_eq_false_iff] at hz
 obtain ⟨h1, g1, g1', e1, e2, hg1⟩ := tks_sim hb hb' hd b.ks.reverse hg hz.1
 have hl := hz.2
 rw [e1] at hl
 have hn : g1 = [] := by
  have : ((r ++ g1).length : Int) = (b.base : Int) := by simpa using hl
  rw [hb, List.length_append] at this
  exact List.length_eq_zero_iff.1 (by omega)
 subst hn
 have hn' := hg1.none
 subst hn'
 rw [List.append_nil] at e1 e2
 rw [hks, e1, e2, hz.1, h1, hb, hb']
 simp
theorem choose_sim {r r' g g' : List Int} {b b' : BlkV} (hb : b.base = r.length) (hb' : b'.base = r'.length) (hd : b.dead = true → b'.dead = true) (hg : SegR b'.dead g g') (hz : (chooseV (r ++ g) b false).2 = false) :
  (chooseV (r' ++ g') b' false).2 = false ∧ ∃ g1 g1', (chooseV (r ++ g) b false).1 = r ++ g1 ∧ (chooseV (r' ++ g') b' false).1 = r' ++ g1' ∧ SegR b'.dead g1 g1' := by
 unfold chooseV at hz ⊢
 dsimp only at hz ⊢
 have up {k : Int} {st : List Int} {c : Bool} (h : (takeV k st b c).2.2 = false) : c = false := by
  cases c with
  | false => rfl
  | true => rw [takeV_bad] at h; cases h
 have z2 := up hz
 have z1 := up z2
 obtain ⟨a1, _, g1, g1', e1, f1, s1⟩ := take_sim (k := 127) (k' := 127) (Or.inl rfl) hb hb' hd hg z1
 rw [z1, e1] at z2 hz ⊢
 rw [a1, f1]
 obtain ⟨a2, k2, g2, g2', e2, f2, s2⟩ := take_sim (k := 0) (k' := 0) (Or.inl rfl) hb hb' hd s1 z2
 rw [z2, e2] at hz ⊢
 rw [a2, f2]
 obtain ⟨a3, k3, g3, g3', e3, f3, s3⟩ := take_sim k2 hb hb' hd s2 hz
 refine ⟨a3, g3 ++ _, g3' ++ _, ?_, ?_, s3.push (.cons k3 .nil)⟩
 ·rw [e3, List.append_assoc]
 ·rw [f3, List.append_assoc]
theorem Sim.along {ops ops' : List BlkV} {st st' : List Int} (h : Sim ops st ops' st') : ops'.map BlkV.along = ops.map BlkV.along := by
 induction h with
 | nil => rfl
 | snoc b b' g g' h hop hks hb hb' hd hg ih =>
  rw [List.map_append, List.map_append, ih]
  simp [BlkV.along, hop, hks]
theorem Sim.len {ops ops' : List BlkV} {st st' : List Int} (h : Sim ops st ops' st') : ops'.length = ops.length := by
 have := congrArg List.length h.along
 simpa using this
theorem Sim.al {ops ops' : List BlkV} {st st' : List Int} (h : Sim ops st ops' st') (f : Int) : alV ops' f = alV ops f := by
 unfold alV
 rw [h.len, ← List.getElem?_map, ← List.getElem?_map, h.along]
theorem Sim.eff {ops ops' : List BlkV} {st st' : List Int} (h : Sim ops st ops' st') (m : ModD) (loc : List Int) (op a : Int) : effV m loc ops' op a = effV m loc ops op a := by
 have e : (ops'[0]?).map BlkV.along = (ops[0]?).map BlkV.along := by rw [← List.getElem?_map, ← List.getElem?_map, h.along]
 unfold effV
 rw [h.al, e]
theorem Sim.allowed {ops ops' : List BlkV} {st st' : List Int} (h : Sim ops st ops' st') (m : ModD) (op a : Int) (xs : List Int) : allowedV m ops' op a xs = allowedV m ops op a xs := by
 unfold allowedV
 rw [show alV ops' = alV ops from funext h.al]
theorem Sim.push {ops ops' : List BlkV} {st st' : List Int} (h : Sim ops st ops' st') (l : List Int) : Sim ops (st ++ l) ops' (st' ++ l) := by
 cases h with
 | nil => exact .nil _ _
 | snoc b b' g g' h hop hks hb hb' hd hg =>
  rw [List.append_assoc, List.append_assoc]
  exact .snoc b b' _ _ h hop hks hb hb' hd (hg.push (forall2_same l))
section
variable {pre pre' : List BlkV} {r r' g g' : List Int} {b b' : BlkV}
theorem pass1_sim (h : Sim pre r pre' r') (hop : b'.op = b.op) (hks : b'.ks = b.ks) (hb : b.base = r.length) (hb' : b'.base = r'.length) (hd : b.dead = true → b'.dead = true) (hg : SegR b'.dead g g') (m : ModD) (loc : List Int) (op a : Int) (h5 : op ≠ 5) (h11 : op ≠ 11) (hz : (pass1 m loc (r ++ g) pre b false op a).bad = false) :
  ∃ g1 g1', pass1 m loc (r ++ g) pre b false op a = ⟨r ++ g1, pre ++ [b], false⟩ ∧ pass1 m loc (r' ++ g') pre' b' false op a = ⟨r' ++ g1', pre' ++ [b'], false⟩ ∧ SegR b'.dead g1 g1' := by
 unfold pass1 at hz ⊢
 by_cases c26 : op = 26
 ·rw [if_pos c26] at hz
  rw [if_pos c26, if_pos c26]
  obtain ⟨a1, _, g1, g1', e1, f1, s1⟩ := take_sim (k := 0) (k' := 0) (Or.inl rfl) hb hb' hd hg hz
  refine ⟨g1, g1', ?_, ?_, s1⟩
  ·rw [e1, show (takeV 0 (r ++ g) b false).2.2 = false from hz]
  ·rw [f1, a1]
 rw [if_neg c26] at hz
 rw [if_neg c26, if_neg c26]
 by_cases c27 : op = 27
 ·rw [if_pos c27] at hz
  rw [if_pos c27, if_pos c27]
  obtain ⟨a1, g1, g1', e1, f1, s1⟩ := choose_sim hb hb' hd hg hz
  refine ⟨g1, g1', ?_, ?_, s1⟩
  ·rw [e1, show (chooseV (r ++ g) b false).2 = false from hz]
  ·rw [f1, a1]
 rw [if_neg c27, if_neg h5, if_neg h11] at hz
 rw [if_neg c27, if_neg c27, if_neg h5, if_neg h5, if_neg h11, if_neg h11]
 have hS : Sim (pre ++ [b]) (r ++ g) (pre' ++ [b']) (r' ++ g') := .snoc b b' g g' h hop hks hb hb' hd hg
 rw [hS.eff]
 obtain ⟨a1, g1, g1', e1, f1, s1⟩ := tks_sim hb hb' hd _ hg hz
 refine ⟨_, _, ?_, ?_, s1.push (forall2_same (effV m loc (pre ++ [b]) op a).2)⟩
 ·rw [e1, show (tksV b (effV m loc (pre ++ [b]) op a).1.reverse (r ++ g, false)).2 = false from hz, List.append_assoc]
 ·rw [f1, a1, List.append_assoc]
theorem Sim.pass (h : Sim pre r pre' r') (hop : b'.op = b.op) (hks : b'.ks = b.ks) (hb : b.base = r.length) (hb' : b'.base = r'.length) (hd : b.dead = true → b'.dead = true) (hg : SegR b'.dead g g') (m : ModD) (loc : List Int) (op a : Int) (hz : (passV m loc (r ++ g) pre b false op a).bad = false) :
  (passV m loc (r' ++ g') pre' b' false op a).bad = false ∧ Sim (passV m loc (r ++ g) pre b false op a).ops (passV m loc (r ++ g) pre b false op a).st (passV m loc (r' ++ g') pre' b' false op a).ops (passV m loc (r' ++ g') pre' b' false op a).st := by
 unfold passV at hz ⊢
 by_cases c2 : op = 2 ∨ op = 3 ∨ op = 4
 ·rw [if_pos c2] at hz
  rw [if_pos c2, if_pos c2]
  obtain ⟨g1, g1', e1, f1, s1⟩ := pass1_sim h hop hks hb hb' hd hg m loc op a (by omega) (by omega) hz
  rw [e1, f1]
  have hS : Sim (pre ++ [b]) (r ++ g1) (pre' ++ [b']) (r' ++ g1') := .snoc b b' g1 g1' h hop hks hb hb' hd s1
  have := Sim.snoc ⟨op, ksOf a, (r ++ g1).length, false⟩ ⟨op, ksOf a, (r' ++ g1').length, false⟩ [] [] hS rfl rfl rfl rfl (fun e => e) (SegR.nil _)
  rw [List.append_nil (r ++ g1), List.append_nil (r' ++ g1')] at this
  exact ⟨rfl, this⟩
 rw [if_neg c2] at hz
 rw [if_neg c2, if_neg c2]
 by_cases c0 : op = 0 ∨ op = 12 ∨ op = 14 ∨ op = 15
 ·rw [if_pos c0] at hz
  rw [if_pos c0, if_pos c0]
  obtain ⟨g1, g1', e1, f1, s1⟩ := pass1_sim h hop hks hb hb' hd hg m loc op a (by omega) (by omega) hz
  rw [e1, f1]
  have := Sim.snoc { b with dead := true } { b' with dead := true } [] [] h hop hks hb hb' (fun e => e) (SegR.nil _)
  rw [List.append_nil, List.append_nil] at this
  refine ⟨rfl, ?_⟩
  show Sim _ ((r ++ g1).take b.base) _ ((r' ++ g1').take b'.base)
  rw [hb, hb', List.take_left, List.take_left]
  rw [← hb, ← hb']
  exact this
 rw [if_neg c0] at hz
 rw [if_neg c0, if_neg c0]
 by_cases c5 : op = 5
 ·unfold pass1 at hz ⊢
  rw [if_neg (by omega), if_neg (by omega), if_pos c5] at hz
  rw [if_neg (by omega), if_neg (by omega), if_pos c5, if_neg (by omega), if_neg (by omega), if_pos c5]
  obtain ⟨e1, f1⟩ := fin_sim hks hb hb' hd hg hz
  rw [e1, f1]
  have := Sim.snoc { b with op := 5, dead := false } { b' with op := 5, dead := false } [] [] h rfl hks hb hb' (fun e => e) (SegR.nil _)
  rw [List.append_nil, List.append_nil] at this
  exact ⟨rfl, this⟩
 by_cases c11 : op = 11
 ·subst c11
  have e (s : List Int) (q : List BlkV) (c : BlkV) : pass1 m loc s q c false 11 a = ⟨(finV s c false).1 ++ c.ks, q, (finV s c false).2 || !(if c.op = 4 then ((c.ks.length : Int) == 0) else true)⟩ := rfl
  rw [e] at hz
  rw [e, e]
  have hz2 := (Bool.or_eq_false_iff.1 hz)
  obtain ⟨e1, f1⟩ := fin_sim hks hb hb' hd hg hz2.1
  rw [e1, f1, hop, hks]
  exact ⟨hz2.2, h.push b.ks⟩
 obtain ⟨g1, g1', e1, f1, s1⟩ := pass1_sim h hop hks hb hb' hd hg m loc op a c5 c11 hz
 rw [e1, f1]
 exact ⟨rfl, .snoc b b' g1 g1' h hop hks hb hb' hd s1⟩
end
theorem chooseV_bad (st : List Int) (b : BlkV) : (chooseV st b true).2 = true := by
 unfold chooseV
 dsimp only
 rw [takeV_bad, takeV_bad, takeV_bad]
theorem pass1_bad (m : ModD) (loc st : List Int) (pre : List BlkV) (b : BlkV) (op a : Int) : (pass1 m loc st pre b true op a).bad = true := by
 unfold pass1
 split
 ·exact takeV_bad _ _ _
 split
 ·exact chooseV_bad _ _
 have hf : (finV st b true).2 = true := by
  unfold finV
  rw [tksV_bad]
  rfl
 split
 ·exact hf
 split
 ·show ((finV st b true).2 || _) = true
  rw [hf]
  rfl
 ·exact tksV_bad _ _ _
theorem passV_bad (m : ModD) (loc st : List Int) (pre : List BlkV) (b : BlkV) (op a : Int) : (passV m loc st pre b true op a).bad = true := by
 unfold passV
 split
 ·exact pass1_bad ..
 split
 ·exact pass1_bad ..
 ·exact pass1_bad ..
theorem Sim.inv {pre pre' : List BlkV} {b b' : BlkV} {st st' : List Int} (h : Sim (pre ++ [b]) st (pre' ++ [b']) st') : ∃ r g r' g', st = r ++ g ∧ st' = r' ++ g' ∧ Sim pre r pre' r' ∧ b'.op = b.op ∧ b'.ks = b.ks ∧ b.base = r.length ∧ b'.base = r'.length ∧ (b.dead = true → b'.dead = true) ∧ SegR b'.dead g g' := by
 generalize ho : pre ++ [b] = o at h
 generalize ho' : pre' ++ [b'] = o' at h
 cases h with
 | nil => simp at ho
 | snoc c c' g g' h hop hks hb hb' hd hg =>
  obtain ⟨rfl, e⟩ := List.append_inj' ho rfl
  obtain ⟨rfl, e'⟩ := List.append_inj' ho' rfl
  cases e
  cases e'
  exact ⟨_, g, _, g', rfl, rfl, h, hop, hks, hb, hb', hd, hg⟩
theorem Sim.step {pre pre' : List BlkV} {b b' : BlkV} {st st' : List Int} (h : Sim (pre ++ [b]) st (pre' ++ [b']) st') (m : ModD) (loc : List Int) (op a : Int) (xs : List Int) (hz : (stepV m loc st pre b false op a xs).1 = 0) :
  (stepV m loc st' pre' b' false op a xs).1 = 0 ∧ Sim (stepV m loc st pre b false op a xs).2.ops (stepV m loc st pre b false op a xs).2.st (stepV m loc st' pre' b' false op a xs).2.ops (stepV m loc st' pre' b' false op a xs).2.st := by
 have hl := h.len
 rw [List.length_append, List.length_append] at hl
 have hl' : pre'.length + 1 = pre.length + 1 := hl
 unfold stepV at hz ⊢
 rw [hl', h.allowed]
 generalize hal : allowedV m (pre ++ [b]) op a xs = al at *
 split at hz
 ·exact absurd hz (by decide)
 rename_i n1
 split at hz
 ·exact absurd hz (by decide)
 rename_i n2
 split at hz
 ·exact absurd hz (by decide)
 rename_i n3
 rw [if_neg n1, if_neg n2, if_neg n3, if_neg n1, if_neg n2]
 cases al with
 | false => exact absurd (passV_bad ..) n3
 | true =>
  obtain ⟨r, g, r', g', rfl, rfl, h, hop, hks, hb, hb', hd, hg⟩ := h.inv
  have p := h.pass hop hks hb hb' hd hg m loc op a (by simpa using n3)
  have p1 := p.1
  rw [if_neg (show ¬ (passV m loc (r' ++ g') pre' b' (false || !true) op a).bad = true from fun e => by rw [show (false || !true) = false from rfl, p1] at e; cases e)]
  exact ⟨rfl, p.2⟩
theorem run_sim (m : ModD) (loc : List Int) : ∀ (L : List InsD) (i : Nat) (T T' : TrkV), Sim T.ops T.st T'.ops T'.st → T.bad = false → T'.bad = false → (runV m loc L i T).2 = 0 → (runV m loc L i T').2 = 0
 | [], _, _, _, _, _, _, _ => rfl
 | d :: L, i, ⟨st, ops, bad⟩, ⟨st', ops', bad'⟩, h, hb, hb', hz => by
  dsimp only at h hb hb'
  subst hb hb'
  rw [runV_cons] at hz ⊢
  by_cases ho : ops = []
  ·subst ho
   have ho' : ops' = [] := List.length_eq_zero_iff.1 h.len
   subst ho'
   have e (s : List Int) : nextV m loc ⟨s, [], false⟩ d = (0, ⟨s, [], false⟩) := rfl
   rw [e, if_pos rfl] at hz ⊢
   exact run_sim m loc L _ _ _ (.nil _ _) rfl rfl hz
  ·have ho' : ops' ≠ [] := fun e => ho (List.length_eq_zero_iff.1 (by rw [← h.len, e]; rfl))
   obtain ⟨pre, b, rfl⟩ : ∃ pre b, ops = pre ++ [b] := ⟨_, _, (List.dropLast_concat_getLast ho).symm⟩
   obtain ⟨pre', b', rfl⟩ : ∃ pre b, ops' = pre ++ [b] := ⟨_, _, (List.dropLast_concat_getLast ho').symm⟩
   rw [nextV_eq] at hz ⊢
   by_cases hE : (stepV m loc st pre b false d.op d.A d.xs).1 = 0
   ·rw [if_pos hE] at hz
    have s := h.step m loc d.op d.A d.xs hE
    rw [if_pos s.1]
    have bd {st : List Int} {pre : List BlkV} {b : BlkV} (hE : (stepV m loc st pre b false d.op d.A d.xs).1 = 0) : (stepV m loc st pre b false d.op d.A d.xs).2.bad = false := by
     unfold stepV at hE ⊢
     split at hE
     ·exact absurd hE (by simp)
     split at hE
     ·exact absurd hE (by simp)
     split at hE
     ·exact absurd hE (by simp)
     rename_i n1 n2 n3
     rw [if_neg n1, if_neg n2, if_neg n3]
     simpa using n3
    exact run_sim m loc L _ _ _ s.2 (bd hE) (bd s.1) hz
   ·rw [if_neg hE] at hz
    exact absurd hz hE
end Go.Proofs.YthapeicnhfdhiaaGreatDoor
namespace Go.Proofs.YthapeicnhfdhiaaGreatDoor
open Go.RowKit
set_option linter.unusedVariables false
theorem sim_refl : ∀ (n : Nat) (ops : List BlkV) (st : List Int), ops.length = n → (∀ b ∈ ops, b.base ≤ st.length) → ops.Pairwise (fun a b => a.base ≤ b.base) → Sim ops st ops st
 | 0, ops, st, hn, _, _ => by
  obtain rfl := List.length_eq_zero_iff.1 hn
  exact .nil _ _
 | n + 1, ops, st, hn, h1, h2 => by
  rcases List.eq_nil_or_concat ops with rfl | ⟨pre, b, rfl⟩
  ·simp at hn
  ·rw [List.concat_eq_append] at *
   have hb := h1 b (by simp)
   have hl : (st.take b.base).length = b.base := by rw [List.length_take]; omega
   have hp := List.pairwise_append.1 h2
   have ih := sim_refl n pre (st.take b.base) (by simpa using hn) (fun x hx => by rw [hl]; exact hp.2.2 x hx b (by simp)) hp.1
   have := Sim.snoc b b (st.drop b.base) (st.drop b.base) ih rfl rfl hl.symm hl.symm (fun e => e) ⟨[], _, rfl, fun _ => rfl, forall2_same _⟩
   rw [List.take_append_drop] at this
   exact this
theorem stV_snoc (m : ModD) (loc : List Int) (d : InsD) : ∀ (A : List InsD) (T : TrkV), stV m loc (A ++ [d]) T = (nextV m loc (stV m loc A T) d).2
 | [], _ => rfl
 | a :: A, T => stV_snoc m loc d A _
theorem RunI.at {m : ModD} {loc : List Int} {L : List InsD} {R : Int × Int} {T0 : TrkV} (hm : ∀ d ∈ m.types, d.r.xs.length ≤ 10) (h : RunI m loc L R 0 T0) (hz : R.2 = 0) : ∀ i, i ≤ L.length → RunI m loc L R i (stV m loc (L.take i) T0)
 | 0, _ => h
 | i + 1, hi => by
  have ih := RunI.at hm h hz i (by omega)
  have hlt : i < L.length := by omega
  obtain ⟨_, pre, b, ho, _⟩ := ih.here hlt
  rw [List.take_succ_eq_append_getElem hlt, stV_snoc]
  revert ih ho
  generalize stV m loc (L.take i) T0 = T
  intro ih ho
  obtain ⟨st, ops, bad⟩ := T
  dsimp only at ho
  subst ho
  rw [nextV_eq]
  refine ih.next hm hlt ?_
  by_cases hE : (stepV m loc st pre b bad (L[i]).op (L[i]).A (L[i]).xs).1 = 0
  ·exact hE
  ·have := ih.stop hlt hE
   rw [this] at hz
   exact absurd hz hE
theorem run_more {m : ModD} {loc ks : List Int} {L : List InsD} (hm : ∀ d ∈ m.types, d.r.xs.length ≤ 10) (hn : nChk L = 0) (hk : ks.length ≤ 10) (hz : (runV m loc L 0 ⟨[], [⟨2, ks, 0, false⟩], false⟩).2 = 0) (k : Nat) (hkl : k < L.length) (op : Int) (ho : op = 0 ∨ op = 1) :
  (runV m loc (L.take k ++ bareI op :: L.drop k) 0 ⟨[], [⟨2, ks, 0, false⟩], false⟩).2 = 0 := by
 have h0 := RunI.first (m := m) (loc := loc) hn hk
 have hI := RunI.at hm h0 hz k (by omega)
 obtain ⟨_, pre, b, hops, _⟩ := hI.here hkl
 have hz' := hz
 rw [← List.take_append_drop k L, run_append] at hz'
 rw [run_append]
 refine ⟨hz'.1, ?_⟩
 have hB := hz'.2
 have hok := hI.ok
 have hbad := hI.bad
 revert hB hok hbad hops
 generalize stV m loc (L.take k) ⟨[], [⟨2, ks, 0, false⟩], false⟩ = T
 intro hops hB hok hbad
 rcases ho with rfl | rfl
 ·obtain ⟨st, ops, bad⟩ := T
  dsimp only at hops hbad
  subst hops hbad
  have e : nextV m loc ⟨st, pre ++ [b], false⟩ (bareI 0) = (0, ⟨st.take b.base, pre ++ [{ b with dead := true }], false⟩) := (nextV_eq ..).trans (stepV_unr ..)
  rw [runV_cons, e, if_pos rfl]
  have hbs : b.base ≤ st.length := hok.bases b (by simp)
  have hl : (st.take b.base).length = b.base := by rw [List.length_take]; omega
  have hS := sim_refl pre.length pre (st.take b.base) rfl (fun x hx => by rw [hl]; exact hok.out x hx) (List.pairwise_append.1 hok.up).1
  have hS2 := Sim.snoc b { b with dead := true } (st.drop b.base) [] hS rfl rfl hl.symm hl.symm (fun _ => rfl) ⟨st.drop b.base, [], by simp, (fun q => by cases q), .nil⟩
  rw [List.take_append_drop, List.append_nil] at hS2
  rw [run_idx m loc _ (0 + 1) 0]
  exact run_sim m loc _ 0 ⟨st, pre ++ [b], false⟩ ⟨st.take b.base, pre ++ [{ b with dead := true }], false⟩ hS2 rfl rfl hB
 ·rw [run_nop m loc _ T (by rw [hops]; simp) hbad]
  exact hB
def moreF (d : FunD) (k : Nat) (op : Int) (o : Option Addr) (cap : Nat) : FunD := ⟨d.t, d.l, o, cap, d.b.take k ++ bareI op :: d.b.drop k⟩
def moreM (m : ModD) (j : Nat) (k : Nat) (op : Int) (oF : Option Addr) (cF : Nat) (o : Option Addr) (cap : Nat) : ModD := { m with oF := oF, cF := cF, funcs := m.funcs.set j (moreF (m.funcs[j]!) k op o cap) }
section
variable {m : ModD} {j k : Nat} {op : Int} {oF : Option Addr} {cF : Nat} {o : Option Addr} {cap : Nat}
theorem more_at (hj : j < m.funcs.length) : ((moreM m j k op oF cF o cap).funcs[j]!) = (moreF (m.funcs[j]!) k op o cap) := by
 have h : j < (moreM m j k op oF cF o cap).funcs.length := by simp [moreM, hj]
 rw [getElem!_pos (moreM m j k op oF cF o cap).funcs j h]
 simp [moreM]
theorem more_off {i : Nat} (hi : i ≠ j) : ((moreM m j k op oF cF o cap).funcs[i]!) = m.funcs[i]! := by
 by_cases hl : i < m.funcs.length
 ·have h : i < (moreM m j k op oF cF o cap).funcs.length := by simp [moreM, hl]
  rw [getElem!_pos (moreM m j k op oF cF o cap).funcs i h, getElem!_pos m.funcs i hl]
  simp [moreM, Ne.symm hi]
 ·have h : ¬ i < (moreM m j k op oF cF o cap).funcs.length := by simp [moreM]; omega
  rw [getElem!_neg (moreM m j k op oF cF o cap).funcs i h, getElem!_neg m.funcs i hl]
theorem more_like (hj : j < m.funcs.length) : Like m (moreM m j k op oF cF o cap) := by
 refine ⟨rfl, rfl, by simp [moreM], fun i => ?_, rfl, rfl, rfl⟩
 by_cases hi : i = j
 ·subst hi
  rw [more_at hj]
  rfl
 ·rw [more_off hi]
end
theorem frst_zero {α : Type} {f : α → Int} : ∀ {L : List α}, (∀ x ∈ L, f x = 0) → frst f L = 0
 | [], _ => rfl
 | x :: L, h => by
  show fstE (f x) (frst f L) = 0
  rw [h x (by simp), frst_zero (L := L) (fun y hy => h y (by simp [hy]))]
  rfl
theorem more_head {m : ModD} {j k : Nat} {op : Int} {oF : Option Addr} {cF : Nat} {o : Option Addr} {cap : Nat} (hj : j < m.funcs.length) (hk : k < (m.funcs[j]!).b.length) (hl : (m.funcs[j]!).b.length < 200) (ho : op = 0 ∨ op = 1) (h : headErr m = 0) : headErr (moreM m j k op oF cF o cap) = 0 := by
 obtain ⟨hc, ht⟩ := head_zero h
 have hmem : m.funcs[j]! ∈ m.funcs := by rw [getElem!_pos m.funcs j hj]; exact List.getElem_mem hj
 have hin : ∀ d ∈ (moreM m j k op oF cF o cap).funcs, d ∈ m.funcs ∨ d = (moreF (m.funcs[j]!) k op o cap) := fun d hd => List.mem_or_eq_of_mem_set hd
 have hlen : (moreM m j k op oF cF o cap).funcs.length = m.funcs.length := (more_like hj).fl
 have hc' : mChk (moreM m j k op oF cF o cap) = 0 := by
  unfold mChk at hc
  obtain ⟨h1, hc⟩ := fstE_eq0 hc
  obtain ⟨h2, hc⟩ := fstE_eq0 hc
  obtain ⟨h3, hc⟩ := fstE_eq0 hc
  have a3 := chkL_eq0 h3
  have h3' : chkL 16 chkFun (moreM m j k op oF cF o cap).funcs = 0 := by
   unfold chkL
   rw [hlen, show okE (decide ((m.funcs.length : Int) ≤ 16)) 2 = 0 from by rw [decide_eq_true a3.1]; rfl, frst_zero fun d hd => ?_]
   ·rfl
   ·rcases hin d hd with hd | rfl
    ·exact a3.2 d hd
    ·have q := a3.2 _ hmem
     unfold chkFun at q ⊢
     obtain ⟨q1, q2⟩ := fstE_eq0 q
     have hn : nChk (m.funcs[j]!).b = 0 := by
      unfold okE at q2
      split at q2
      ·rename_i e; exact eq_of_beq e
      ·exact q2
     have hn' : nChk ((m.funcs[j]!).b.take k ++ bareI op :: (m.funcs[j]!).b.drop k) = 0 := by
      refine nChk_more (x := bareI op) ?_ ?_ ?_ ?_ (by intro e; have := List.drop_eq_nil_iff.1 e; omega) (by rw [List.take_append_drop]; exact hn) (by rw [List.take_append_drop]; exact hl)
      ·rcases ho with rfl | rfl <;> rfl
      ·show ¬ (op = 2 ∨ op = 3 ∨ op = 4); omega
      ·show op ≠ 5; omega
      ·show op ≠ 11; omega
     show fstE (fstE (chkNum (m.funcs[j]!).t) (chkL 16 chkKind (m.funcs[j]!).l.xs)) (okE (nChk ((m.funcs[j]!).b.take k ++ bareI op :: (m.funcs[j]!).b.drop k) == 0) (nChk ((m.funcs[j]!).b.take k ++ bareI op :: (m.funcs[j]!).b.drop k))) = 0
     rw [q1, hn']
     rfl
  show fstE (chkL 16 chkSig m.types) (fstE (chkL 16 chkNam m.imports) (fstE (chkL 16 chkFun (moreM m j k op oF cF o cap).funcs) _)) = 0
  rw [h1, h2, h3']
  exact hc
 unfold headErr at h ⊢
 rw [if_pos hc] at h
 rw [if_pos hc']
 split at h
 ·rename_i q
  rw [Bool.and_eq_true] at q
  have q' : ((moreM m j k op oF cF o cap).imports.all (fun d => decide (d.n < ((moreM m j k op oF cF o cap).types.length : Int))) && (moreM m j k op oF cF o cap).funcs.all (fun d => decide (d.t < ((moreM m j k op oF cF o cap).types.length : Int)))) = true := by
   rw [Bool.and_eq_true]
   refine ⟨q.1, List.all_eq_true.2 fun d hd => ?_⟩
   have q2 := List.all_eq_true.1 q.2
   rcases hin d hd with hd | rfl
   ·exact q2 d hd
   ·exact q2 (m.funcs[j]!) hmem
  rw [if_pos q', hlen]
  have hs : startErr (moreM m j k op oF cF o cap).types (moreM m j k op oF cF o cap).imports (moreM m j k op oF cF o cap).funcs (moreM m j k op oF cF o cap).start = startErr m.types m.imports m.funcs m.start := by
   unfold startErr
   rw [(more_like hj).sig, hlen]
   rfl
  rw [hs]
  exact h
 ·exact absurd h (by decide)
theorem more_sound {w : World} {m : ModD} {j k : Nat} {op : Int} {oF : Option Addr} {cF : Nat} {o : Option Addr} {cap : Nat} (hm : m.ok w) (hj : j < m.funcs.length) (hk : k < (m.funcs[j]!).b.length) (hl : (m.funcs[j]!).b.length < 200) (ho : op = 0 ∨ op = 1) (h : modE m = 0) : modE (moreM m j k op oF cF o cap) = 0 := by
 obtain ⟨h1, h2⟩ := mod_zero h
 have hc := (head_zero h1).1
 have sm := mod_small hm hc
 have sr : ∀ d ∈ m.types, d.r.xs.length ≤ 10 := fun d hd => by
  have := (hm.types.all d hd).2.len
  have := (sm.1 d hd).2
  omega
 have lk := more_like (m := m) (k := k) (op := op) (oF := oF) (cF := cF) (o := o) (cap := cap) hj
 unfold modE
 rw [more_head hj hk hl ho h1, frst_zero fun i hi => ?_]
 ·rfl
 ·have hi' : i < m.funcs.length := by
   rw [lk.fl, List.mem_range'_1] at hi
   omega
  have hz := h2 i hi'
  unfold firstV at hz ⊢
  rw [lk.run, lk.ty]
  by_cases e : i = j
  ·subst e
   rw [more_at hj]
   have hmem : m.funcs[i]! ∈ m.funcs := by rw [getElem!_pos m.funcs i hj]; exact List.getElem_mem hj
   exact run_more sr (sm.2 _ hmem).1 (bang_len sr _) hz k hk op ho
  ·rw [more_off e]
   exact hz
end Go.Proofs.YthapeicnhfdhiaaGreatDoor
namespace Go.Proofs.YthapeicnhfdhiaaGreatDoor
open Go.RowKit
set_option linter.unusedVariables false
theorem cellsOf_len (L : List InsD) : (cellsOf L).length = L.length * 4 := by
 unfold cellsOf
 induction L with
 | nil => rfl
 | cons d L ih => rw [List.flatMap_cons, List.length_append, ih, List.length_cons]; simp [InsD.cells]; omega
theorem cellsOf_one (L : List InsD) : ∀ u ∈ cellsOf L, u.oneCell' = true := by
 intro u hu
 obtain ⟨d, _, hd⟩ := List.mem_flatMap.1 hu
 simp only [InsD.cells, List.mem_cons, List.not_mem_nil, or_false] at hd
 rcases hd with rfl | rfl | rfl | rfl <;> rfl
theorem cellsOf_app2 (A B : List InsD) : cellsOf (A ++ B) = cellsOf A ++ cellsOf B := List.flatMap_append
theorem LD.cells {w : World} {o : Option Addr} {L : List InsD} (h : LD w o L) (hL : L ≠ []) : ∃ b f, o = some ⟨b, f, none⟩ ∧ b < w.heap.size ∧ ∀ j u, (cellsOf L)[j]? = some u → w.cell? ⟨b, f + j, none⟩ = some u := by
 rcases h.2 with h0 | ⟨b, f, e, hb, hc⟩
 ·exact absurd h0 hL
 refine ⟨b, f, e, hb, fun j u hu => ?_⟩
 have hj : j < L.length * 4 := by
  have := (List.getElem?_eq_some_iff.1 hu).1
  rwa [cellsOf_len] at this
 have hi : j / 4 < L.length := by omega
 have hf := flat_at InsD.cells 4 (fun _ => rfl) L (j / 4) (j % 4) hi (by omega)
 rw [show j / 4 * 4 + j % 4 = j by omega, show L.flatMap InsD.cells = cellsOf L from rfl, hu] at hf
 obtain ⟨c0, c1, c2, c3⟩ := hc (j / 4) hi
 have h4 : j % 4 = 0 ∨ j % 4 = 1 ∨ j % 4 = 2 ∨ j % 4 = 3 := by omega
 rcases h4 with q | q | q | q <;> rw [q] at hf
 ·rw [show f + j = f + j / 4 * 4 by omega, c0]; exact hf.symm
 ·rw [show f + j = f + j / 4 * 4 + 1 by omega, c1]; exact hf.symm
 ·rw [show f + j = f + j / 4 * 4 + 2 by omega, c2]; exact hf.symm
 ·rw [show f + j = f + j / 4 * 4 + 3 by omega, c3]; exact hf.symm
theorem cells_take {L : List InsD} {k j : Nat} {u : Value} (h : (cellsOf (L.take k))[j]? = some u) : (cellsOf L)[j]? = some u := by
 have hj := (List.getElem?_eq_some_iff.1 h).1
 have e := cellsOf_app2 (L.take k) (L.drop k)
 rw [List.take_append_drop] at e
 rw [e, List.getElem?_append_left hj]
 exact h
theorem cells_drop {L : List InsD} {k j : Nat} {u : Value} (hk : k ≤ L.length) (h : (cellsOf (L.drop k))[j]? = some u) : (cellsOf L)[k * 4 + j]? = some u := by
 have e := cellsOf_app2 (L.take k) (L.drop k)
 have hl : (cellsOf (L.take k)).length = k * 4 := by rw [cellsOf_len, List.length_take]; congr 1; omega
 rw [List.take_append_drop] at e
 rw [e, List.getElem?_append_right (by omega), hl, show k * 4 + j - k * 4 = j by omega]
 exact h
theorem own_LD {w : World} {B g c n : Nat} {L : List InsD} (h : w.ownsRow B 53 4 (.slice (some ⟨g, 0, none⟩) n c) n (cellsOf L)) (hl : L.length = n) (hok : ∀ d ∈ L, d.ok w) : LD w (some ⟨g, 0, none⟩) L ∧ n ≤ c ∧ c ≤ maxLen := by
 rcases h.2 with ⟨h1, _⟩ | ⟨g', c', cur, h1, _, hg, h3, h4, h5, h6⟩
 ·cases h1
 simp only [Value.slice.injEq, Option.some.injEq, Addr.mk.injEq] at h1
 obtain ⟨⟨rfl, _⟩, _, rfl⟩ := h1
 refine ⟨⟨hok, Or.inr ⟨g, 0, rfl, some_lt hg, fun i hi => ?_⟩⟩, h3, h4⟩
 have at' (r : Nat) (hr : r < 4) : w.cell? ⟨g, 0 + i * 4 + r, none⟩ = (InsD.cells L[i])[r]? := by
  have hf := flat_at InsD.cells 4 (fun _ => rfl) L i r hi hr
  rw [show L.flatMap InsD.cells = cellsOf L from rfl, ← h6, List.getElem?_take_of_lt (by omega)] at hf
  rw [← hf]
  simp [World.cell?, hg]
 exact ⟨at' 0 (by omega), at' 1 (by omega), at' 2 (by omega), at' 3 (by omega)⟩
theorem bare_ok (w : World) {op : Int} (h0 : 0 ≤ op) (h1 : op ≤ 255) : (bareI op).ok w := ⟨h0, h1, ⟨by show (-9223372036854775808 : Int) ≤ 0; decide, by show (0 : Int) ≤ 9223372036854775807; decide⟩, Nat.le_refl _, Nat.zero_le _, ⟨rfl, Or.inl rfl⟩, fun _ => rfl⟩
end Go.Proofs.YthapeicnhfdhiaaGreatDoor
namespace Go.Proofs.YthapeicnhfdhiaaGreatDoor
open Go.RowKit
set_option linter.unusedVariables false
theorem own_base {w : World} {B : Nat} {t : TypeId} {k : Nat} {v : Value} {n : Nat} {xs : List Value} (h : w.ownsRow B t k v n xs) {i : Nat} (e : v.ownBlock = some i) : B ≤ i := by
 rcases h.2 with ⟨h1, _⟩ | ⟨g, c, cur, h1, hb, _⟩
 ·rw [h1] at e; cases e
 ·rw [h1] at e
  simp only [Value.ownBlock, Option.some.injEq] at e
  omega
theorem flat_len3 (L : List FunD) : (L.flatMap FunD.cells).length = L.length * 3 := by
 induction L with
 | nil => rfl
 | cons d L ih => rw [List.flatMap_cons, List.length_append, ih, List.length_cons]; simp [FunD.cells]; omega
theorem rows_news {w : World} {o : Option Addr} {cap : Nat} {L : List FunD} (h : RowsOf w 3 FunD.cells FunD.ok o cap L) : L.length = 0 ∨ ∃ a : Addr, o = some a ∧ ∀ j u, (L.flatMap FunD.cells)[j]? = some u → w.cell? (a.add j) = some u := by
 rcases h.at' with h0 | ⟨b, f, e, hb, hc⟩
 ·exact Or.inl (by rw [h0]; rfl)
 refine Or.inr ⟨_, e, fun j u hu => ?_⟩
 have hj : j < L.length * 3 := by
  have := (List.getElem?_eq_some_iff.1 hu).1
  rwa [flat_len3] at this
 have hi : j / 3 < L.length := by omega
 have hf := flat_at FunD.cells 3 (fun _ => rfl) L (j / 3) (j % 3) hi (by omega)
 rw [show j / 3 * 3 + j % 3 = j by omega, hu, ← hc (j / 3) hi (j % 3) (by omega)] at hf
 rw [show (⟨b, f, none⟩ : Addr).add j = ⟨b, f + j, none⟩ from by unfold Addr.add; split <;> simp_all, show f + j = f + j / 3 * 3 + j % 3 by omega]
 exact hf.symm
theorem fun_one (L : List FunD) : ∀ u ∈ L.flatMap FunD.cells, u.oneCell' = true := by
 intro u hu
 obtain ⟨d, _, hd⟩ := List.mem_flatMap.1 hu
 simp only [FunD.cells, NumD.v, List.mem_cons, List.not_mem_nil, or_false] at hd
 rcases hd with rfl | rfl | rfl <;> rfl
theorem more_body {m : ModD} {j k : Nat} {op : Int} : cellsOf ((m.funcs[j]!).b.take k ++ bareI op :: (m.funcs[j]!).b.drop k) = cellsOf ((m.funcs[j]!).b.take k) ++ [.int .u8 op, .int .i64 0, .int .i64 0, .slice none 0 0] ++ cellsOf ((m.funcs[j]!).b.drop k) := by
 rw [show (m.funcs[j]!).b.take k ++ bareI op :: (m.funcs[j]!).b.drop k = ((m.funcs[j]!).b.take k ++ [bareI op]) ++ (m.funcs[j]!).b.drop k by simp, cellsOf_app2, cellsOf_app]
 rfl
theorem put_ok {m : ModD} {j k n : Nat} {op : Int} {g cF g2 cp2 B B' : Nat} {w z3 z5 : World} (hm : m.ok w) (hj : j < m.funcs.length) (hn : (m.funcs[j]!).b.length = n) (hk : k < n) (ho0 : 0 ≤ op) (ho1 : op ≤ 255) (hB : Below w.heap.size w z5) (hrow : z3.ownsRow B 50 3 (.slice (some ⟨g, 0, none⟩) m.funcs.length cF) m.funcs.length (m.funcs.flatMap FunD.cells))
  (hbody : z5.ownsRow B' 53 4 (.slice (some ⟨g2, 0, none⟩) (k + 1 + (n - k)) cp2) (k + 1 + (n - k)) (cellsOf ((m.funcs[j]!).b.take k ++ bareI op :: (m.funcs[j]!).b.drop k)))
  (hset : ∀ p, p ≠ j * 3 + 2 → z5.cell? ⟨g, p, none⟩ = z3.cell? ⟨g, p, none⟩) (hnew : z5.cell? ⟨g, j * 3 + 2, none⟩ = some (.slice (some ⟨g2, 0, none⟩) (k + 1 + (n - k)) cp2)) (hg : g < z5.heap.size) : (moreM m j k op (some ⟨g, 0, none⟩) cF (some ⟨g2, 0, none⟩) cp2).ok z5 := by
 have h5 := hm.below hB
 have hlen : ((m.funcs[j]!).b.take k ++ bareI op :: (m.funcs[j]!).b.drop k).length = k + 1 + (n - k) := by
  simp only [List.length_append, List.length_cons, List.length_take, List.length_drop, hn]
  omega
 have hmem : m.funcs[j]! ∈ m.funcs := by rw [getElem!_pos m.funcs j hj]; exact List.getElem_mem hj
 have hd := h5.funcs.all _ hmem
 have hL := own_LD hbody hlen (fun d hd' => by
  rcases List.mem_append.1 hd' with q | q
  ·exact hd.2.2.1.1 d (List.mem_of_mem_take q)
  ·rcases List.mem_cons.1 q with rfl | q
   ·exact bare_ok _ ho0 ho1
   ·exact hd.2.2.1.1 d (List.mem_of_mem_drop q))
 have hcap : m.funcs.length ≤ cF ∧ cF ≤ maxLen := by
  rcases hrow.2 with ⟨h1, _⟩ | ⟨g', c', cur, h1, _, _, h3, h4, _⟩
  ·cases h1
  ·simp only [Value.slice.injEq] at h1
   obtain ⟨_, _, rfl⟩ := h1
   exact ⟨h3, h4⟩
 have hF : RowsOf z5 3 FunD.cells FunD.ok (some ⟨g, 0, none⟩) cF (m.funcs.set j (moreF (m.funcs[j]!) k op (some ⟨g2, 0, none⟩) cp2)) := by
  refine ⟨by rw [List.length_set]; exact hcap.1, hcap.2, (fun h => by cases h), fun d hd' => ?_, Or.inr ⟨g, 0, rfl, hg, fun i hi r hr => ?_⟩⟩
  ·rcases List.mem_or_eq_of_mem_set hd' with q | rfl
   ·exact h5.funcs.all d q
   ·exact ⟨hd.1, hd.2.1, hL.1, Nat.le_trans (Nat.le_of_eq hlen) hL.2.1, hL.2.2⟩
  ·have hi' : i < m.funcs.length := by rwa [List.length_set] at hi
   have ho : z3.cell? ⟨g, i * 3 + r, none⟩ = (FunD.cells m.funcs[i])[r]? := (hrow.cellAt (i * 3 + r) (by omega)).trans (flat_at FunD.cells 3 (fun _ => rfl) m.funcs i r hi' hr)
   rw [Nat.zero_add]
   by_cases e : i = j
   ·subst e
    rw [List.getElem_set_self]
    by_cases e2 : r = 2
    ·subst e2
     rw [hnew]
     exact congrArg (fun q => some (Value.slice (some ⟨g2, 0, none⟩) q cp2)) hlen.symm
    ·rw [hset _ (by omega), ho, ← getElem!_pos m.funcs i hi']
     have : r = 0 ∨ r = 1 := by omega
     rcases this with rfl | rfl <;> rfl
   ·rw [List.getElem_set_ne (by omega), hset _ (by omega), ho]
 exact ⟨h5.types, h5.imports, hF, h5.table, h5.pages, h5.most, h5.globals, h5.exports, h5.start, h5.elems, h5.data⟩
theorem vput (m : ModD) (j k : Nat) (op : Int) (X : Nat) (w : World) (hm : m.ok w) (hj : j < m.funcs.length) (hk : k < (m.funcs[j]!).b.length) (hl : (m.funcs[j]!).b.length ≤ 200) (hf : m.funcs.length ≤ 16) (ho0 : 0 ≤ op) (ho1 : op ≤ 255) (hX : w.heap[X]? = some (.cells #[.int .u8 op, .int .i64 0, .int .i64 0, .slice none 0 0] 53 (0, 0))) :
  Calls Tryz.prog 20 #[.agg #[.slice m.oT m.types.length m.cT, .slice m.oI m.imports.length m.cI, .slice m.oF m.funcs.length m.cF, .int .i64 m.table, .int .i64 m.pages, .int .i64 m.most, .slice m.oG m.globals.length m.cG, .slice m.oE m.exports.length m.cE, .int .i64 m.start, .slice m.oL m.elems.length m.cL, .slice m.oD m.data.length m.cD], .int .i64 (j : Int), .int .i64 (k : Int), .slice (some ⟨X, 0, none⟩) 1 1] w fun r w' => ∃ (oF : Option Addr) (cF : Nat) (o : Option Addr) (cap : Nat), r = .returned (.agg (mcA (moreM m j k op oF cF o cap))) ∧ (moreM m j k op oF cF o cap).ok w' ∧ Below w.heap.size w w' := by
 have hb2 : Below w.heap.size w ((w.alloc (.cells #[.slice m.oT m.types.length m.cT, .slice m.oI m.imports.length m.cI, .slice m.oF m.funcs.length m.cF, .int .i64 m.table, .int .i64 m.pages, .int .i64 m.most, .slice m.oG m.globals.length m.cG, .slice m.oE m.exports.length m.cE, .int .i64 m.start, .slice m.oL m.elems.length m.cL, .slice m.oD m.data.length m.cD] 30)).alloc (.cells #[.slice none 0 0, .slice none 0 0, .slice none 0 0, .int .i64 0, .int .i64 0, .int .i64 0, .slice none 0 0, .slice none 0 0, .int .i64 0, .slice none 0 0, .slice none 0 0] 30)) := ((Below.refl _ _).alloc (Nat.le_refl _) _).alloc (by simp) _
 have z2 : ((w.alloc (.cells #[.slice m.oT m.types.length m.cT, .slice m.oI m.imports.length m.cI, .slice m.oF m.funcs.length m.cF, .int .i64 m.table, .int .i64 m.pages, .int .i64 m.most, .slice m.oG m.globals.length m.cG, .slice m.oE m.exports.length m.cE, .int .i64 m.start, .slice m.oL m.elems.length m.cL, .slice m.oD m.data.length m.cD] 30)).alloc (.cells #[.slice none 0 0, .slice none 0 0, .slice none 0 0, .int .i64 0, .int .i64 0, .int .i64 0, .slice none 0 0, .slice none 0 0, .int .i64 0, .slice none 0 0, .slice none 0 0] 30)).heap.size = w.heap.size + 2 := by simp
 have hq : ((w.alloc (.cells #[.slice m.oT m.types.length m.cT, .slice m.oI m.imports.length m.cI, .slice m.oF m.funcs.length m.cF, .int .i64 m.table, .int .i64 m.pages, .int .i64 m.most, .slice m.oG m.globals.length m.cG, .slice m.oE m.exports.length m.cE, .int .i64 m.start, .slice m.oL m.elems.length m.cL, .slice m.oD m.data.length m.cD] 30)).alloc (.cells #[.slice none 0 0, .slice none 0 0, .slice none 0 0, .int .i64 0, .int .i64 0, .int .i64 0, .slice none 0 0, .slice none 0 0, .int .i64 0, .slice none 0 0, .slice none 0 0] 30)).heap[w.heap.size]? = some (.cells #[.slice m.oT m.types.length m.cT, .slice m.oI m.imports.length m.cI, .slice m.oF m.funcs.length m.cF, .int .i64 m.table, .int .i64 m.pages, .int .i64 m.most, .slice m.oG m.globals.length m.cG, .slice m.oE m.exports.length m.cE, .int .i64 m.start, .slice m.oL m.elems.length m.cL, .slice m.oD m.data.length m.cD] 30 (0, 0)) := old_block' _ _ _ (by simp) (new_block' _ _ _ _ rfl)
 have hrm := hm.funcs.nil
 have HCF : Hid (type_of% (vcopyF m.oF m.funcs.length m.cF (m.funcs.flatMap FunD.cells) (flat_len3 _) (fun_one _) hrm (by omega) ((w.alloc (.cells #[.slice m.oT m.types.length m.cT, .slice m.oI m.imports.length m.cI, .slice m.oF m.funcs.length m.cF, .int .i64 m.table, .int .i64 m.pages, .int .i64 m.most, .slice m.oG m.globals.length m.cG, .slice m.oE m.exports.length m.cE, .int .i64 m.start, .slice m.oL m.elems.length m.cL, .slice m.oD m.data.length m.cD] 30)).alloc (.cells #[.slice none 0 0, .slice none 0 0, .slice none 0 0, .int .i64 0, .int .i64 0, .int .i64 0, .slice none 0 0, .slice none 0 0, .int .i64 0, .slice none 0 0, .slice none 0 0] 30)) (rows_news (hm.below hb2).funcs))) := vcopyF m.oF m.funcs.length m.cF (m.funcs.flatMap FunD.cells) (flat_len3 _) (fun_one _) hrm (by omega) ((w.alloc (.cells #[.slice m.oT m.types.length m.cT, .slice m.oI m.imports.length m.cI, .slice m.oF m.funcs.length m.cF, .int .i64 m.table, .int .i64 m.pages, .int .i64 m.most, .slice m.oG m.globals.length m.cG, .slice m.oE m.exports.length m.cE, .int .i64 m.start, .slice m.oL m.elems.length m.cL, .slice m.oD m.data.length m.cD] 30)).alloc (.cells #[.slice none 0 0, .slice none 0 0, .slice none 0 0, .int .i64 0, .int .i64 0, .int .i64 0, .slice none 0 0, .slice none 0 0, .int .i64 0, .slice none 0 0, .slice none 0 0] 30)) (rows_news (hm.below hb2).funcs)
 have HM : Hid (m.ok w) := hm
 have HB2 : Hid (type_of% hb2) := hb2
 have HQ : Hid (type_of% hq) := hq
 have f2 : ((w.alloc (.cells #[.slice m.oT m.types.length m.cT, .slice m.oI m.imports.length m.cI, .slice m.oF m.funcs.length m.cF, .int .i64 m.table, .int .i64 m.pages, .int .i64 m.most, .slice m.oG m.globals.length m.cG, .slice m.oE m.exports.length m.cE, .int .i64 m.start, .slice m.oL m.elems.length m.cL, .slice m.oD m.data.length m.cD] 30)).alloc (.cells #[.slice none 0 0, .slice none 0 0, .slice none 0 0, .int .i64 0, .int .i64 0, .int .i64 0, .slice none 0 0, .slice none 0 0, .int .i64 0, .slice none 0 0, .slice none 0 0] 30)).cell? ⟨w.heap.size, 2, none⟩ = some (.slice m.oF m.funcs.length m.cF) := cell_at hq 2 rfl
 have HX : Hid (type_of% hX) := hX
 clear hb2 hq hrm hX
 go_enter Tryz.func20, Tryz.ntmps20
 go_wp2_with fail
 refine HCF.out.mono ?_
 rintro r w1 ⟨o', cF, rfl, how, b1⟩
 obtain ⟨g, rfl⟩ : ∃ g, o' = some ⟨g, 0, none⟩ := by
  rcases how.2 with ⟨_, hz⟩ | ⟨g, c, cur, hv, _⟩
  ·omega
  ·simp only [Value.slice.injEq] at hv
   exact ⟨g, hv.1⟩
 have hgb : w.heap.size + 2 ≤ g := by
  rcases how.2 with ⟨_, hz⟩ | ⟨g', c, cur, hv, hb, _⟩
  ·omega
  ·simp only [Value.slice.injEq, Option.some.injEq, Addr.mk.injEq] at hv
   obtain ⟨⟨rfl, _⟩, _⟩ := hv
   omega
 have q1 := (b1.block w.heap.size (by rw [z2]; omega)).trans HQ.out
 have fz : w1.frozen? ⟨w.heap.size, 2, none⟩ = false := by simp [World.frozen?, q1]
 have c2 : w1.cell? ⟨w.heap.size, 2, none⟩ = some (.slice m.oF m.funcs.length m.cF) := cell_at q1 2 rfl
 have hch : Chg w.heap.size w1 (w1.setCell ⟨w.heap.size, 2, none⟩ (.slice (some ⟨g, 0, none⟩) m.funcs.length cF)) := Chg.set _ _ _ _
 have how2 := own_chg how hch (by simp only [Value.ownBlock, ne_eq, Option.some.injEq]; omega)
 have q2 : (w1.setCell ⟨w.heap.size, 2, none⟩ (.slice (some ⟨g, 0, none⟩) m.funcs.length cF)).heap[w.heap.size]? = some (.cells #[.slice m.oT m.types.length m.cT, .slice m.oI m.imports.length m.cI, .slice (some ⟨g, 0, none⟩) m.funcs.length cF, .int .i64 m.table, .int .i64 m.pages, .int .i64 m.most, .slice m.oG m.globals.length m.cG, .slice m.oE m.exports.length m.cE, .int .i64 m.start, .slice m.oL m.elems.length m.cL, .slice m.oD m.data.length m.cD] 30 (0, 0)) := by simp [World.setCell, Array.getElem?_modify, q1]
 have HB3 : Hid (Below w.heap.size w (w1.setCell ⟨w.heap.size, 2, none⟩ (.slice (some ⟨g, 0, none⟩) m.funcs.length cF))) := (HB2.out.trans (b1.mono (by rw [z2]; omega))).trans (hch.below (Nat.le_refl _) (by have := b1.size; rw [z2] at this; omega))
 have c9 : (w1.setCell ⟨w.heap.size, 2, none⟩ (.slice (some ⟨g, 0, none⟩) m.funcs.length cF)).cell? ⟨g, j * 3 + 2, none⟩ = some (.slice (m.funcs[j]!).o (m.funcs[j]!).b.length (m.funcs[j]!).cap) := by
  have a := flat_at FunD.cells 3 (fun _ => rfl) m.funcs j 2 hj (by omega)
  rw [← how2.cellAt (j * 3 + 2) (by omega), ← getElem!_pos m.funcs j hj] at a
  exact a
 have HOW2 : Hid (type_of% how2) := how2
 have HQ2 : Hid (type_of% q2) := q2
 have HR : Hid (∃ cur : Array Value, (w1.setCell ⟨w.heap.size, 2, none⟩ (.slice (some ⟨g, 0, none⟩) m.funcs.length cF)).heap[w.heap.size + 1]? = some (.cells cur 30 (0, 0)) ∧ cur.size = 11) := ⟨_, by
  rw [hch.block _ (by have := b1.size; rw [z2] at this; omega) (by omega), b1.block _ (by rw [z2]; omega)]
  exact new_block' _ _ _ _ (by simp), rfl⟩
 have HS1 : Hid (w.heap.size + 2 ≤ w1.heap.size) := by have := b1.size; rw [z2] at this; exact this
 have hdm : m.funcs[j]! ∈ m.funcs := by rw [getElem!_pos m.funcs j hj]; exact List.getElem_mem hj
 have hdo := HM.out.funcs.all _ hdm
 obtain ⟨bb, ff, hbo, hbw, hcs⟩ := hdo.2.2.1.cells (fun e => by rw [e] at hk; simp at hk)
 obtain ⟨n, hn⟩ : ∃ n, (m.funcs[j]!).b.length = n := ⟨_, rfl⟩
 obtain ⟨dc, hdc⟩ : ∃ c, (m.funcs[j]!).cap = c := ⟨_, rfl⟩
 have hnc : n ≤ dc := by rw [← hn, ← hdc]; exact hdo.2.2.2.1
 have hcm : dc ≤ 9223372036854775807 := by have := hdo.2.2.2.2; rw [hdc] at this; unfold maxLen at this; omega
 have HDO : Hid (type_of% hdo) := hdo
 have HCS : Hid (type_of% hcs) := hcs
 have HN : Hid ((m.funcs[j]!).b.length = n ∧ (m.funcs[j]!).cap = dc) := ⟨hn, hdc⟩
 have HBO : Hid (type_of% hbo) := hbo
 rw [hbo, hn, hdc] at c9
 rw [hn] at hk hl
 obtain ⟨i0, hi, hz0, hz1, hz2⟩ := info_parts infoI9
 clear HCF f2 b1 how how2 q2 hch hm hdo hcs hn hdc hbo hdm
 go_wp2_with fail
 refine wp_region_z (S := fun w' => w'.cell? ⟨w.heap.size, 2, none⟩ = some (.slice (some ⟨g, 0, none⟩) m.funcs.length cF)) (z := 15) (by kernel_rfl) ?_
 obtain ⟨v, hv⟩ : ∃ v, v = (w1.setCell ⟨w.heap.size, 2, none⟩ (.slice (some ⟨g, 0, none⟩) m.funcs.length cF)) := ⟨_, rfl⟩
 rw [← hv] at HB3 HOW2 HQ2 HR c9
 rw [← hv]
 have hvs : w1.heap.size = v.heap.size := by rw [hv]; simp [World.setCell]
 rw [hvs] at HS1
 clear hv q1 fz c2 hvs
 obtain ⟨z0, hz0'⟩ : ∃ z, z = World.drew v := ⟨_, rfl⟩
 have HB0 : Hid (Below v.heap.size v z0) := by unfold Hid; rw [hz0']; exact (Below.refl _ _).drew
 have hHeld : (fun w' : World => w'.cell? ⟨w.heap.size, 2, none⟩ = some (.slice (some ⟨g, 0, none⟩) m.funcs.length cF)) z0 := cell_at ((HB0.out.block _ (by have := HS1.out; omega)).trans HQ2.out) 2 rfl
 have HCI : Hid (type_of% (vcopyI (some ⟨bb, ff, none⟩) k dc (cellsOf ((m.funcs[j]!).b.take k)) (by rw [cellsOf_len, List.length_take, HN.out.1]; congr 1; omega) (cellsOf_one _) (fun h => by cases h) (by omega) z0 (Or.inr ⟨⟨bb, ff, none⟩, rfl, fun i u hu => by
  rw [show (⟨bb, ff, none⟩ : Addr).add i = ⟨bb, ff + i, none⟩ from by unfold Addr.add; split <;> simp_all, (HB3.out.trans (HB0.out.mono HB3.out.size)).cell (p := ⟨bb, ff + i, none⟩) hbw]
  exact HCS.out i u (cells_take hu)⟩))) := vcopyI (some ⟨bb, ff, none⟩) k dc (cellsOf ((m.funcs[j]!).b.take k)) (by rw [cellsOf_len, List.length_take, HN.out.1]; congr 1; omega) (cellsOf_one _) (fun h => by cases h) (by omega) z0 (Or.inr ⟨⟨bb, ff, none⟩, rfl, fun i u hu => by
  rw [show (⟨bb, ff, none⟩ : Addr).add i = ⟨bb, ff + i, none⟩ from by unfold Addr.add; split <;> simp_all, (HB3.out.trans (HB0.out.mono HB3.out.size)).cell (p := ⟨bb, ff + i, none⟩) hbw]
  exact HCS.out i u (cells_take hu)⟩)
 rw [← hz0']
 clear hz0' c9
 have hki0 : (0 : Int) ≤ (k : Int) := by omega
 have hki1 : (k : Int) < (n : Int) := by omega
 have hji0 : (0 : Int) ≤ (j : Int) := by omega
 have hji1 : (j : Int) < (m.funcs.length : Int) := by omega
 have hkd : k ≤ dc := by omega
 have hkn : k ≤ n := by omega
 have hne : ¬ dc = k := by omega
 refine wpZ_take (i := 0) (v := _) rfl (by kernel_rfl) (by kernel_rfl) (by kernel_rfl) (by kernel_rfl) (fun _ _ _ h => h) (Or.inl ⟨by rfl, by intro w' hSw; go_simp <;> with_reducible rfl⟩) hHeld ?_
 refine wpZ_load (i := 1) [13, 14, 15] (v := _) rfl (by kernel_rfl) (by kernel_rfl) (by kernel_rfl) (by kernel_rfl) (by kernel_rfl) (by kernel_rfl) (fun _ _ _ h => h) (Or.inl ⟨by rfl, by intro w' hSw; (try dsimp only at hSw); go_simp <;> with_reducible rfl⟩) hHeld ?_
 refine wpZ_take (i := 2) (v := _) rfl (by kernel_rfl) (by kernel_rfl) (by kernel_rfl) (by kernel_rfl) (fun _ _ _ h => h) (Or.inl ⟨by rfl, by intro w' hSw; go_simp <;> with_reducible rfl⟩) hHeld ?_
 refine wpZ_take (i := 3) (v := _) rfl (by kernel_rfl) (by kernel_rfl) (by kernel_rfl) (by kernel_rfl) (fun _ _ _ h => h) (Or.inl ⟨by rfl, by intro w' hSw; go_simp <;> with_reducible rfl⟩) hHeld ?_
 refine wpZ_take (i := 4) (v := _) rfl (by kernel_rfl) (by kernel_rfl) (by kernel_rfl) (by kernel_rfl) (fun _ _ _ h => h) (Or.inl ⟨by rfl, by intro w' hSw; go_simp <;> with_reducible rfl⟩) hHeld ?_
 refine wpZ_take (i := 5) (v := .slice (some ⟨bb, ff, none⟩) k dc) rfl (by kernel_rfl) (by kernel_rfl) (by kernel_rfl) (by kernel_rfl) (fun _ _ _ h => h) (Or.inl ⟨by rfl, by intro w' hSw; go_simp <;> simp [hkd, hkn, hne]⟩) hHeld ?_
 refine wpZ_take (i := 7) (v := _) rfl (by kernel_rfl) (by kernel_rfl) (by kernel_rfl) (by kernel_rfl) (fun _ _ _ h => h) (Or.inl ⟨by rfl, by intro w' hSw; go_simp <;> with_reducible rfl⟩) hHeld ?_
 refine wpZ_take (i := 9) (v := _) rfl (by kernel_rfl) (by kernel_rfl) (by kernel_rfl) (by kernel_rfl) (fun _ _ _ h => h) (Or.inl ⟨by rfl, by intro w' hSw; go_simp <;> with_reducible rfl⟩) hHeld ?_
 refine wpZ_take (i := 10) (v := _) rfl (by kernel_rfl) (by kernel_rfl) (by kernel_rfl) (by kernel_rfl) (fun _ _ _ h => h) (Or.inl ⟨by rfl, by intro w' hSw; go_simp <;> with_reducible rfl⟩) hHeld ?_
 refine wpZ_take (i := 11) (v := .slice (some ⟨bb, ff + k * 4, none⟩) (n - k) (dc - k)) rfl (by kernel_rfl) (by kernel_rfl) (by kernel_rfl) (by kernel_rfl) (fun _ _ _ h => h) (Or.inl ⟨by rfl, by intro w' hSw; go_simp <;> simp [hkd, hkn, hne]⟩) hHeld ?_
 refine wpZ_call (i := 6) rfl (by kernel_rfl) rfl (by go_simp) HCI.out ?_
 rintro r z1 ⟨o1, c1, rfl, how1, b1⟩
 have HB1 : Hid (Below v.heap.size v z1) := HB0.out.trans (b1.mono HB0.out.size)
 have hS1 : (fun w' : World => w'.cell? ⟨w.heap.size, 2, none⟩ = some (.slice (some ⟨g, 0, none⟩) m.funcs.length cF)) z1 := cell_at ((HB1.out.block _ (by have := HS1.out; omega)).trans HQ2.out) 2 rfl
 have HO1 : Hid (type_of% how1) := how1
 have HZ1 : Hid (z0.heap.size ≤ z1.heap.size ∧ v.heap.size ≤ z0.heap.size) := ⟨b1.size, HB0.out.size⟩
 clear hHeld how1 b1 HCI
 refine ⟨_, rfl, hS1, fun hHeld => wpZ_put ?_⟩
 have HX1 : Hid (z1.heap[X]? = some (.cells #[.int .u8 op, .int .i64 0, .int .i64 0, .slice none 0 0] 53 (0, 0))) := ((HB3.out.trans (HB1.out.mono HB3.out.size)).block X (some_lt HX.out)).trans HX.out
 refine wpZ_one (i := 8) rfl (by kernel_rfl) rfl (fun K R hK => ?_)
 refine wp_append_lies _ (.tmp 26) (.tmp 27) 48 rfl z0.heap.size 53 i0 (.agg #[.int .u8 0, .int .i64 0, .int .i64 0, .slice none 0 0]) 4 48 Tryz.underlying48 hi hz0 hz1 hz2 rfl (by omega) _ k (cellsOf ((m.funcs[j]!).b.take k)) rfl HO1.out ⟨X, 0, none⟩ 1 1 [.int .u8 op, .int .i64 0, .int .i64 0, .slice none 0 0] rfl rfl (World.news_of_block (cs := #[.int .u8 op, .int .i64 0, .int .i64 0, .slice none 0 0]) (t := 53) (fr := (0, 0)) HX1.out) (by simp [Value.oneCell']) (by omega) (by unfold maxLen; omega) (by omega) HZ1.out.1 _ rfl ?_
 intro g1 cp1 z2 hown1 hgrow1 hat1 hlt1
 have hb12 : Below v.heap.size v z2 := HB1.out.grown hgrow1 HB1.out.size (fun i hi => by have := own_base HO1.out hi; have := HZ1.out; omega)
 have HB4 : Hid (type_of% hb12) := hb12
 have hS2 : (fun w' : World => w'.cell? ⟨w.heap.size, 2, none⟩ = some (.slice (some ⟨g, 0, none⟩) m.funcs.length cF)) z2 := cell_at ((HB4.out.block _ (by have := HS1.out; omega)).trans HQ2.out) 2 rfl
 have HO2 : Hid (type_of% hown1) := hown1
 have HZ2 : Hid (z1.heap.size ≤ z2.heap.size) := hgrow1.size
 clear hown1 hgrow1 hat1 hlt1 hb12 hHeld
 refine hK.out _ _ hS2 (fun hHeld => wpZ_put ?_)
 clear hK
 refine wpZ_one (i := 12) rfl (by kernel_rfl) rfl (fun K R hK => ?_)
 refine wp_append_lies _ (.tmp 28) (.tmp 31) 48 rfl z0.heap.size 53 i0 (.agg #[.int .u8 0, .int .i64 0, .int .i64 0, .slice none 0 0]) 4 48 Tryz.underlying48 hi hz0 hz1 hz2 rfl (by omega) _ (k + 1) _ rfl HO2.out ⟨bb, ff + k * 4, none⟩ (n - k) (dc - k) (cellsOf ((m.funcs[j]!).b.drop k)) rfl (by rw [cellsOf_len, List.length_drop, HN.out.1]) (fun i u hu => by
  rw [show (⟨bb, ff + k * 4, none⟩ : Addr).add i = ⟨bb, ff + (k * 4 + i), none⟩ from by unfold Addr.add; split <;> simp_all <;> omega, (HB3.out.trans (HB4.out.mono HB3.out.size)).cell (p := ⟨bb, ff + (k * 4 + i), none⟩) hbw]
  exact HCS.out _ u (cells_drop (by rw [HN.out.1]; omega) hu)) (cellsOf_one _) (by omega) (by unfold maxLen; omega) (by omega) (by have := HZ1.out; have := HZ2.out; omega) _ rfl ?_
 intro g2 cp2 z3 hown2 hgrow2 hat2 hlt2
 have hb13 : Below v.heap.size v z3 := HB4.out.grown hgrow2 HB4.out.size (fun i hi => by have := own_base HO2.out hi; have := HZ1.out; omega)
 have HB5 : Hid (type_of% hb13) := hb13
 have hS3 : (fun w' : World => w'.cell? ⟨w.heap.size, 2, none⟩ = some (.slice (some ⟨g, 0, none⟩) m.funcs.length cF)) z3 := cell_at ((HB5.out.block _ (by have := HS1.out; omega)).trans HQ2.out) 2 rfl
 have HO3 : Hid (type_of% hown2) := hown2
 clear hown2 hgrow2 hat2 hlt2 hb13 hHeld
 refine hK.out _ _ hS3 (fun hHeld => wpZ_put ?_)
 clear hK
 refine wpZ_take (i := 13) (v := _) rfl (by kernel_rfl) (by kernel_rfl) (by kernel_rfl) (by kernel_rfl) (fun _ _ _ h => h) (Or.inl ⟨by rfl, by intro w' hSw; go_simp <;> with_reducible rfl⟩) hHeld ?_
 refine wpZ_take (i := 14) (v := _) rfl (by kernel_rfl) (by kernel_rfl) (by kernel_rfl) (by kernel_rfl) (fun _ _ _ h => h) (Or.inl ⟨by rfl, by intro w' hSw; go_simp <;> with_reducible rfl⟩) hHeld ?_
 have HOW3 : Hid (type_of% (own_below HOW2.out HB5.out)) := own_below HOW2.out HB5.out
 obtain ⟨cur, hgc⟩ : ∃ cur, z3.heap[g]? = some (.cells cur 50 (0, 0)) := by
  rcases HOW3.out.2 with ⟨h1, _⟩ | ⟨g', c', cur, h1, _, h3, _⟩
  ·cases h1
  ·simp only [Value.slice.injEq, Option.some.injEq, Addr.mk.injEq] at h1
   obtain ⟨⟨rfl, _⟩, _⟩ := h1
   exact ⟨cur, h3⟩
 have fzF : z3.frozen? ⟨g, j * 3 + 2, none⟩ = false := by simp [World.frozen?, hgc]
 have kF : ∃ u, z3.cell? ⟨g, j * 3 + 2, none⟩ = some u := ⟨_, (HOW3.out.cellAt (j * 3 + 2) (by omega)).trans (flat_at FunD.cells 3 (fun _ => rfl) m.funcs j 2 hj (by omega))⟩
 obtain ⟨u, kF⟩ := kF
 refine wpZ_last rfl (by kernel_rfl) (by kernel_rfl) (by kernel_rfl) rfl (fun K R hK => ?_)
 go_simp
 refine hK.out _ _ ?_
 clear hK K R hHeld
 have hc4 : Chg g z3 (z3.setCell ⟨g, j * 3 + 2, none⟩ (.slice (some ⟨g2, 0, none⟩) (k + 1 + (n - k)) cp2)) := Chg.set _ _ _ _
 have HC4 : Hid (type_of% hc4) := hc4
 have hq4 : (z3.setCell ⟨g, j * 3 + 2, none⟩ (.slice (some ⟨g2, 0, none⟩) (k + 1 + (n - k)) cp2)).heap[w.heap.size]? = some (.cells #[.slice m.oT m.types.length m.cT, .slice m.oI m.imports.length m.cI, .slice (some ⟨g, 0, none⟩) m.funcs.length cF, .int .i64 m.table, .int .i64 m.pages, .int .i64 m.most, .slice m.oG m.globals.length m.cG, .slice m.oE m.exports.length m.cE, .int .i64 m.start, .slice m.oL m.elems.length m.cL, .slice m.oD m.data.length m.cD] 30 (0, 0)) := by
  rw [hc4.block _ (by have := HB5.out.size; have := HS1.out; omega) (by omega), HB5.out.block _ (by have := HS1.out; omega)]
  exact HQ2.out
 obtain ⟨curR, hr0, hrs⟩ := HR.out
 have hr4 : (z3.setCell ⟨g, j * 3 + 2, none⟩ (.slice (some ⟨g2, 0, none⟩) (k + 1 + (n - k)) cp2)).heap[w.heap.size + 1]? = some (.cells curR 30 (0, 0)) := by
  rw [hc4.block _ (by have := HB5.out.size; have := HS1.out; omega) (by omega), HB5.out.block _ (by have := HS1.out; omega)]
  exact hr0
 obtain ⟨d0, d1, d2, d3, d4, d5, d6, d7, d8, d9, d10⟩ : (z3.setCell ⟨g, j * 3 + 2, none⟩ (.slice (some ⟨g2, 0, none⟩) (k + 1 + (n - k)) cp2)).cell? ⟨w.heap.size, 0, none⟩ = some (.slice m.oT m.types.length m.cT) ∧ (z3.setCell ⟨g, j * 3 + 2, none⟩ (.slice (some ⟨g2, 0, none⟩) (k + 1 + (n - k)) cp2)).cell? ⟨w.heap.size, 1, none⟩ = some (.slice m.oI m.imports.length m.cI) ∧ (z3.setCell ⟨g, j * 3 + 2, none⟩ (.slice (some ⟨g2, 0, none⟩) (k + 1 + (n - k)) cp2)).cell? ⟨w.heap.size, 2, none⟩ = some (.slice (some ⟨g, 0, none⟩) m.funcs.length cF) ∧ (z3.setCell ⟨g, j * 3 + 2, none⟩ (.slice (some ⟨g2, 0, none⟩) (k + 1 + (n - k)) cp2)).cell? ⟨w.heap.size, 3, none⟩ = some (.int .i64 m.table) ∧ (z3.setCell ⟨g, j * 3 + 2, none⟩ (.slice (some ⟨g2, 0, none⟩) (k + 1 + (n - k)) cp2)).cell? ⟨w.heap.size, 4, none⟩ = some (.int .i64 m.pages) ∧ (z3.setCell ⟨g, j * 3 + 2, none⟩ (.slice (some ⟨g2, 0, none⟩) (k + 1 + (n - k)) cp2)).cell? ⟨w.heap.size, 5, none⟩ = some (.int .i64 m.most) ∧ (z3.setCell ⟨g, j * 3 + 2, none⟩ (.slice (some ⟨g2, 0, none⟩) (k + 1 + (n - k)) cp2)).cell? ⟨w.heap.size, 6, none⟩ = some (.slice m.oG m.globals.length m.cG) ∧ (z3.setCell ⟨g, j * 3 + 2, none⟩ (.slice (some ⟨g2, 0, none⟩) (k + 1 + (n - k)) cp2)).cell? ⟨w.heap.size, 7, none⟩ = some (.slice m.oE m.exports.length m.cE) ∧ (z3.setCell ⟨g, j * 3 + 2, none⟩ (.slice (some ⟨g2, 0, none⟩) (k + 1 + (n - k)) cp2)).cell? ⟨w.heap.size, 8, none⟩ = some (.int .i64 m.start) ∧ (z3.setCell ⟨g, j * 3 + 2, none⟩ (.slice (some ⟨g2, 0, none⟩) (k + 1 + (n - k)) cp2)).cell? ⟨w.heap.size, 9, none⟩ = some (.slice m.oL m.elems.length m.cL) ∧ (z3.setCell ⟨g, j * 3 + 2, none⟩ (.slice (some ⟨g2, 0, none⟩) (k + 1 + (n - k)) cp2)).cell? ⟨w.heap.size, 10, none⟩ = some (.slice m.oD m.data.length m.cD) := ⟨cell_at hq4 0 rfl, cell_at hq4 1 rfl, cell_at hq4 2 rfl, cell_at hq4 3 rfl, cell_at hq4 4 rfl, cell_at hq4 5 rfl, cell_at hq4 6 rfl, cell_at hq4 7 rfl, cell_at hq4 8 rfl, cell_at hq4 9 rfl, cell_at hq4 10 rfl⟩
 generalize hz4 : (z3.setCell ⟨g, j * 3 + 2, none⟩ (.slice (some ⟨g2, 0, none⟩) (k + 1 + (n - k)) cp2)) = z4 at *
 have HK4 : Hid (z4.cell? ⟨g, j * 3 + 2, none⟩ = some (.slice (some ⟨g2, 0, none⟩) (k + 1 + (n - k)) cp2)) := by
  unfold Hid
  rw [← hz4]
  have hcz : j * 3 + 2 < cur.size := by
   have := kF
   simp [World.cell?, hgc] at this
   exact (Array.getElem?_eq_some_iff.1 this).1
  simp [World.cell?, World.setCell, Array.getElem?_modify, hgc, hcz]
 have HK5 : Hid (∀ p, p ≠ j * 3 + 2 → z4.cell? ⟨g, p, none⟩ = z3.cell? ⟨g, p, none⟩) := by
  intro p hp
  rw [← hz4]
  simp [World.cell?, World.setCell, Array.getElem?_modify, hgc, Ne.symm hp]
 have hgz := some_lt hgc
 have HGZ : Hid (g < z3.heap.size) := hgz
 clear kF fzF hgc hgz
 have HR4 : Hid (type_of% hr4) := hr4
 have HRS : Hid (curR.size = (#[.slice m.oT m.types.length m.cT, .slice m.oI m.imports.length m.cI, .slice (some ⟨g, 0, none⟩) m.funcs.length cF, .int .i64 m.table, .int .i64 m.pages, .int .i64 m.most, .slice m.oG m.globals.length m.cG, .slice m.oE m.exports.length m.cE, .int .i64 m.start, .slice m.oL m.elems.length m.cL, .slice m.oD m.data.length m.cD] : Array Value).size) := hrs
 clear hr4 hrs hr0
 go_wp2_with (refine wpList_store_row rfl 30 (.tmp 8) (.tmp 35) rfl (w.heap.size + 1) #[.slice m.oT m.types.length m.cT, .slice m.oI m.imports.length m.cI, .slice (some ⟨g, 0, none⟩) m.funcs.length cF, .int .i64 m.table, .int .i64 m.pages, .int .i64 m.most, .slice m.oG m.globals.length m.cG, .slice m.oE m.exports.length m.cE, .int .i64 m.start, .slice m.oL m.elems.length m.cL, .slice m.oD m.data.length m.cD] rfl rfl 30 curR HR4.out infoMod HRS.out (by simp [Value.oneCell']) ?_)
 have hrow : (z4.setRow (w.heap.size + 1) #[.slice m.oT m.types.length m.cT, .slice m.oI m.imports.length m.cI, .slice (some ⟨g, 0, none⟩) m.funcs.length cF, .int .i64 m.table, .int .i64 m.pages, .int .i64 m.most, .slice m.oG m.globals.length m.cG, .slice m.oE m.exports.length m.cE, .int .i64 m.start, .slice m.oL m.elems.length m.cL, .slice m.oD m.data.length m.cD]).heap[w.heap.size + 1]? = some (.cells #[.slice m.oT m.types.length m.cT, .slice m.oI m.imports.length m.cI, .slice (some ⟨g, 0, none⟩) m.funcs.length cF, .int .i64 m.table, .int .i64 m.pages, .int .i64 m.most, .slice m.oG m.globals.length m.cG, .slice m.oE m.exports.length m.cE, .int .i64 m.start, .slice m.oL m.elems.length m.cL, .slice m.oD m.data.length m.cD] 30 (0, 0)) := setRow_heap z4 (w.heap.size + 1) _ #[.slice m.oT m.types.length m.cT, .slice m.oI m.imports.length m.cI, .slice (some ⟨g, 0, none⟩) m.funcs.length cF, .int .i64 m.table, .int .i64 m.pages, .int .i64 m.most, .slice m.oG m.globals.length m.cG, .slice m.oE m.exports.length m.cE, .int .i64 m.start, .slice m.oL m.elems.length m.cL, .slice m.oD m.data.length m.cD] _ _ HR4.out
 have hcq : Chg (w.heap.size + 1) z4 (z4.setRow (w.heap.size + 1) #[.slice m.oT m.types.length m.cT, .slice m.oI m.imports.length m.cI, .slice (some ⟨g, 0, none⟩) m.funcs.length cF, .int .i64 m.table, .int .i64 m.pages, .int .i64 m.most, .slice m.oG m.globals.length m.cG, .slice m.oE m.exports.length m.cE, .int .i64 m.start, .slice m.oL m.elems.length m.cL, .slice m.oD m.data.length m.cD]) := ⟨rfl, rfl, rfl, by simp [World.setRow], fun i _ hi => setRow_other z4 (w.heap.size + 1) i #[.slice m.oT m.types.length m.cT, .slice m.oI m.imports.length m.cI, .slice (some ⟨g, 0, none⟩) m.funcs.length cF, .int .i64 m.table, .int .i64 m.pages, .int .i64 m.most, .slice m.oG m.globals.length m.cG, .slice m.oE m.exports.length m.cE, .int .i64 m.start, .slice m.oL m.elems.length m.cL, .slice m.oD m.data.length m.cD] hi⟩
 refine bodyPost_ret (results_cell_row rfl _ _ (w.heap.size + 1) 30 #[.slice m.oT m.types.length m.cT, .slice m.oI m.imports.length m.cI, .slice (some ⟨g, 0, none⟩) m.funcs.length cF, .int .i64 m.table, .int .i64 m.pages, .int .i64 m.most, .slice m.oG m.globals.length m.cG, .slice m.oE m.exports.length m.cE, .int .i64 m.start, .slice m.oL m.elems.length m.cL, .slice m.oD m.data.length m.cD] (0, 0) _ rfl hrow Tryz.underlying30 rfl infoMod) rfl ?_
 have hs5 := HB5.out.size
 have hs1 := HS1.out
 have hb4 : Below w.heap.size w z4 := (HB3.out.trans (HB5.out.mono HB3.out.size)).trans (HC4.out.below (by omega) (by omega))
 have hb5 : Below w.heap.size w (z4.setRow (w.heap.size + 1) #[.slice m.oT m.types.length m.cT, .slice m.oI m.imports.length m.cI, .slice (some ⟨g, 0, none⟩) m.funcs.length cF, .int .i64 m.table, .int .i64 m.pages, .int .i64 m.most, .slice m.oG m.globals.length m.cG, .slice m.oE m.exports.length m.cE, .int .i64 m.start, .slice m.oL m.elems.length m.cL, .slice m.oD m.data.length m.cD]) := hb4.trans (hcq.below (by omega) (by have := HC4.out.size; omega))
 refine ⟨some ⟨g, 0, none⟩, cF, some ⟨g2, 0, none⟩, cp2, by simp [mcA, moreM, List.length_set], ?_, hb5⟩
 have hgv : g < v.heap.size := by
  rcases HOW2.out.2 with ⟨h1, _⟩ | ⟨g', c', cur, h1, _, h3, _⟩
  ·cases h1
  ·simp only [Value.slice.injEq, Option.some.injEq, Addr.mk.injEq] at h1
   obtain ⟨⟨rfl, _⟩, _⟩ := h1
   exact some_lt h3
 have hg2 := own_base HO3.out (i := g2) rfl
 have hz1' := HZ1.out
 have hc5 (p : Nat) : (z4.setRow (w.heap.size + 1) #[.slice m.oT m.types.length m.cT, .slice m.oI m.imports.length m.cI, .slice (some ⟨g, 0, none⟩) m.funcs.length cF, .int .i64 m.table, .int .i64 m.pages, .int .i64 m.most, .slice m.oG m.globals.length m.cG, .slice m.oE m.exports.length m.cE, .int .i64 m.start, .slice m.oL m.elems.length m.cL, .slice m.oD m.data.length m.cD]).cell? ⟨g, p, none⟩ = z4.cell? ⟨g, p, none⟩ := World.cell?_of_block (hcq.block g (by have := HC4.out.size; have := HGZ.out; omega) (by omega))
 refine put_ok (B' := z0.heap.size) HM.out hj HN.out.1 hk ho0 ho1 hb5 HOW3.out ?_ (fun p hp => (hc5 p).trans (HK5.out p hp)) ((hc5 _).trans HK4.out) (by have := HC4.out.size; have := hcq.size; have := HGZ.out; omega)
 rw [more_body]
 exact own_chg (own_chg HO3.out HC4.out (by simp only [Value.ownBlock, ne_eq, Option.some.injEq]; omega)) hcq (by simp only [Value.ownBlock, ne_eq, Option.some.injEq]; omega)
end Go.Proofs.YthapeicnhfdhiaaGreatDoor
