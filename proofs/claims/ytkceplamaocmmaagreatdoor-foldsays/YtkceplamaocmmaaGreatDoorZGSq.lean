/-
 The document's own way through a body, from block to block, and that it says what a nesting and a match say: plain mathematics. The document's own way through a body finds the match that the program finds: plain mathematics.
-/
import Derived.Test.YtkceplamaocmmaaGreatDoorZGMat
namespace Go.Proofs.YtkceplamaocmmaaGreatDoor
set_option linter.unusedVariables false
def chkAt (L : List InsD) (i : Nat) : Int := (L.map chkD).getD i 0
theorem chkAt_get (L : List InsD) (i : Nat) (h : i < L.length) : chkAt L i = chkD (L[i]) := by
 unfold chkAt
 rw [List.getD_eq_getElem?_getD, List.getElem?_map, List.getElem?_eq_getElem h]
 rfl
inductive Sq (L : List InsD) : Nat → Nat → List Int → List Int → Int → Nat → List Int → List Int → Prop
 | short (i dp : Nat) (E S : List Int) (h : L.length ≤ i) : Sq L i dp E S 3 0 E S
 | bad (i dp : Nat) (E S : List Int) (h : i < L.length) (c : chkAt L i ≠ 0) : Sq L i dp E S (chkAt L i) 0 E S
 | stop (i dp : Nat) (E S : List Int) (h : i < L.length) (c : chkAt L i = 0) (o : opAt L i = 5 ∨ opAt L i = 11) : Sq L i dp E S 0 i E S
 | skip (i dp : Nat) (E S : List Int) (e : Int) (j : Nat) (E' S' : List Int) (h : i < L.length) (c : chkAt L i = 0) (o5 : opAt L i ≠ 5) (o11 : opAt L i ≠ 11) (o : ¬ isO (opAt L i)) (r : Sq L (i + 1) dp E S e j E' S') : Sq L i dp E S e j E' S'
 | deep (i dp : Nat) (E S : List Int) (h : i < L.length) (c : chkAt L i = 0) (o : isO (opAt L i)) (d : dp = 12) : Sq L i dp E S 7 0 E S
 | fail1 (i dp : Nat) (E S : List Int) (e : Int) (j : Nat) (E1 S1 : List Int) (h : i < L.length) (c : chkAt L i = 0) (o : isO (opAt L i)) (d : dp ≠ 12) (he : e ≠ 0) (r : Sq L (i + 1) (dp + 1) E S e j E1 S1) : Sq L i dp E S e 0 E1 S1
 | form1 (i dp : Nat) (E S : List Int) (j : Nat) (E1 S1 : List Int) (h : i < L.length) (c : chkAt L i = 0) (o : isO (opAt L i)) (d : dp ≠ 12) (r : Sq L (i + 1) (dp + 1) E S 0 j E1 S1) (o5 : opAt L j = 5) (o4 : opAt L i ≠ 4) : Sq L i dp E S 4 0 E1 S1
 | block (i dp : Nat) (E S : List Int) (j : Nat) (E1 S1 : List Int) (e : Int) (j' : Nat) (E' S' : List Int) (h : i < L.length) (c : chkAt L i = 0) (o : isO (opAt L i)) (d : dp ≠ 12) (r : Sq L (i + 1) (dp + 1) E S 0 j E1 S1) (o5 : opAt L j ≠ 5) (r2 : Sq L (j + 1) dp ((E1.set i (j : Int)).set j (i : Int)) S1 e j' E' S') : Sq L i dp E S e j' E' S'
 | fail2 (i dp : Nat) (E S : List Int) (j : Nat) (E1 S1 : List Int) (e : Int) (j2 : Nat) (E2 S2 : List Int) (h : i < L.length) (c : chkAt L i = 0) (o4 : opAt L i = 4) (d : dp ≠ 12) (r : Sq L (i + 1) (dp + 1) E S 0 j E1 S1) (o5 : opAt L j = 5) (r2 : Sq L (j + 1) (dp + 1) E1 S1 e j2 E2 S2) (he : e ≠ 0) : Sq L i dp E S e 0 E2 S2
 | form2 (i dp : Nat) (E S : List Int) (j : Nat) (E1 S1 : List Int) (j2 : Nat) (E2 S2 : List Int) (h : i < L.length) (c : chkAt L i = 0) (o4 : opAt L i = 4) (d : dp ≠ 12) (r : Sq L (i + 1) (dp + 1) E S 0 j E1 S1) (o5 : opAt L j = 5) (r2 : Sq L (j + 1) (dp + 1) E1 S1 0 j2 E2 S2) (o52 : opAt L j2 = 5) : Sq L i dp E S 4 0 E2 S2
 | turn (i dp : Nat) (E S : List Int) (j : Nat) (E1 S1 : List Int) (j2 : Nat) (E2 S2 : List Int) (e : Int) (j' : Nat) (E' S' : List Int) (h : i < L.length) (c : chkAt L i = 0) (o4 : opAt L i = 4) (d : dp ≠ 12) (r : Sq L (i + 1) (dp + 1) E S 0 j E1 S1) (o5 : opAt L j = 5) (r2 : Sq L (j + 1) (dp + 1) E1 S1 0 j2 E2 S2) (o52 : opAt L j2 ≠ 5)
   (r3 : Sq L (j2 + 1) dp (((E2.set i (j2 : Int)).set j2 (i : Int)).set j (j2 : Int)) ((S2.set i (j : Int)).set j (i : Int)) e j' E' S') : Sq L i dp E S e j' E' S'
theorem Sq.len {L : List InsD} {i dp : Nat} {E S : List Int} {e : Int} {j : Nat} {E' S' : List Int} (h : Sq L i dp E S e j E' S') : E'.length = E.length ∧ S'.length = S.length := by
 induction h with
 | short => exact ⟨rfl, rfl⟩
 | bad => exact ⟨rfl, rfl⟩
 | stop => exact ⟨rfl, rfl⟩
 | skip _ _ _ _ _ _ _ _ _ _ _ _ _ _ ih => exact ih
 | deep => exact ⟨rfl, rfl⟩
 | fail1 _ _ _ _ _ _ _ _ _ _ _ _ _ _ ih => exact ih
 | form1 _ _ _ _ _ _ _ _ _ _ _ _ _ _ ih => exact ih
 | block _ _ _ _ _ _ _ _ _ _ _ _ _ _ _ _ _ _ ih ih2 =>
  simp only [List.length_set] at ih2
  exact ⟨ih2.1.trans ih.1, ih2.2.trans ih.2⟩
 | fail2 _ _ _ _ _ _ _ _ _ _ _ _ _ _ _ _ _ _ _ ih ih2 => exact ⟨ih2.1.trans ih.1, ih2.2.trans ih.2⟩
 | form2 _ _ _ _ _ _ _ _ _ _ _ _ _ _ _ _ _ _ ih ih2 => exact ⟨ih2.1.trans ih.1, ih2.2.trans ih.2⟩
 | turn _ _ _ _ _ _ _ _ _ _ _ _ _ _ _ _ _ _ _ _ _ _ _ ih ih2 ih3 =>
  simp only [List.length_set] at ih3
  exact ⟨ih3.1.trans (ih2.1.trans ih.1), ih3.2.trans (ih2.2.trans ih.2)⟩
theorem Sq.ok {L : List InsD} {i dp : Nat} {E S : List Int} {e : Int} {j : Nat} {E' S' : List Int} (h : Sq L i dp E S e j E' S') : e = 0 → i ≤ j ∧ j < L.length ∧ chkAt L j = 0 ∧ (opAt L j = 5 ∨ opAt L j = 11) := by
 induction h with
 | short => intro h; cases h
 | bad _ _ _ _ _ c => intro h; exact absurd h c
 | stop i dp E S h c o => exact fun _ => ⟨Nat.le_refl _, h, c, o⟩
 | skip _ _ _ _ _ _ _ _ _ _ _ _ _ _ ih => intro h; obtain ⟨a, b⟩ := ih h; exact ⟨by omega, b⟩
 | deep => intro h; cases h
 | fail1 _ _ _ _ _ _ _ _ _ _ _ _ he => intro h; exact absurd h he
 | form1 => intro h; cases h
 | block _ _ _ _ _ _ _ _ _ _ _ _ _ _ _ _ _ _ ih ih2 =>
  intro h
  obtain ⟨a, b⟩ := ih2 h
  obtain ⟨a1, _⟩ := ih rfl
  exact ⟨by omega, b⟩
 | fail2 _ _ _ _ _ _ _ _ _ _ _ _ _ _ _ _ _ _ he => intro h; exact absurd h he
 | form2 => intro h; cases h
 | turn _ _ _ _ _ _ _ _ _ _ _ _ _ _ _ _ _ _ _ _ _ _ _ ih ih2 ih3 =>
  intro h
  obtain ⟨a, b⟩ := ih3 h
  obtain ⟨a1, _⟩ := ih rfl
  obtain ⟨a2, _⟩ := ih2 rfl
  exact ⟨by omega, b⟩
theorem Sq.keepS {L : List InsD} {i dp : Nat} {E S : List Int} {e : Int} {j : Nat} {E' S' : List Int} (h : Sq L i dp E S e j E' S') : e = 0 → ∀ p, p < i ∨ j ≤ p → S'.getD p 0 = S.getD p 0 := by
 induction h with
 | short => intro h; cases h
 | bad _ _ _ _ _ c => intro h; exact absurd h c
 | stop => exact fun _ _ _ => rfl
 | skip _ _ _ _ _ _ _ _ _ _ _ _ _ _ ih => exact fun h p hp => ih h p (by omega)
 | deep => intro h; cases h
 | fail1 _ _ _ _ _ _ _ _ _ _ _ _ he => intro h; exact absurd h he
 | form1 => intro h; cases h
 | block _ _ _ _ _ _ _ _ _ _ _ _ _ _ _ r _ r2 ih ih2 =>
  intro h p hp
  obtain ⟨a1, _⟩ := r.ok rfl
  obtain ⟨a2, _⟩ := r2.ok h
  rw [ih2 h p (by omega), ih rfl p (by omega)]
 | fail2 _ _ _ _ _ _ _ _ _ _ _ _ _ _ _ _ _ _ he => intro h; exact absurd h he
 | form2 => intro h; cases h
 | turn _ _ _ _ _ _ _ _ _ _ _ _ _ _ _ _ _ _ r _ r2 _ r3 ih ih2 ih3 =>
  intro h p hp
  obtain ⟨a1, _⟩ := r.ok rfl
  obtain ⟨a2, _⟩ := r2.ok rfl
  obtain ⟨a3, _⟩ := r3.ok h
  rw [ih3 h p (by omega), getD_set, if_neg (by omega), getD_set, if_neg (by omega), ih2 rfl p (by omega), ih rfl p (by omega)]
theorem nRun_at (L : List InsD) (i : Nat) (h : i < L.length) (bs : List Int) (en : Bool) : nRun (L.drop i) bs en = if (nStep (chkAt L i) (opAt L i) bs en).1 = 0 then nRun (L.drop (i + 1)) (nStep (chkAt L i) (opAt L i) bs en).2.1 (nStep (chkAt L i) (opAt L i) bs en).2.2 else nStep (chkAt L i) (opAt L i) bs en := by
 rw [List.drop_eq_getElem_cons h, nRun, chkAt_get L i h, opAt_get L i h]
theorem mRun_at (L : List InsD) (i : Nat) (h : i < L.length) (q : List Nat × List Int × List Int) : mRun i (L.drop i) q = mRun (i + 1) (L.drop (i + 1)) (mStep i (opAt L i) q) := by
 rw [List.drop_eq_getElem_cons h, mRun, opAt_get L i h]
def vd (R : Int × List Int × Bool) : Int := if R.1 = 0 then (if R.2.2 = true then 0 else 3) else R.1
theorem vd_err (R : Int × List Int × Bool) (h : R.1 ≠ 0) : vd R = R.1 := if_neg h
theorem nStep_open (op : Int) (bs : List Int) (o : isO op) (h : bs.length ≠ 12) : nStep 0 op bs false = (0, bs ++ [op], false) := by
 unfold nStep
 rw [if_neg (by simp), if_neg (by simp), if_pos (show op = 2 ∨ op = 3 ∨ op = 4 from o), if_neg h]
theorem nStep_deep (op : Int) (bs : List Int) (o : isO op) (h : bs.length = 12) : nStep 0 op bs false = (7, bs, false) := by
 unfold nStep
 rw [if_neg (by simp), if_neg (by simp), if_pos (show op = 2 ∨ op = 3 ∨ op = 4 from o), if_pos h]
theorem nStep_skip (op : Int) (bs : List Int) (o : ¬ isO op) (o5 : op ≠ 5) (o11 : op ≠ 11) : nStep 0 op bs false = (0, bs, false) := by
 unfold nStep
 rw [if_neg (by simp), if_neg (by simp), if_neg (show ¬ (op = 2 ∨ op = 3 ∨ op = 4) from o), if_neg o5, if_neg o11]
theorem nStep_bad (c op : Int) (bs : List Int) (en : Bool) (h : c ≠ 0) : nStep c op bs en = (c, bs, en) := by
 unfold nStep
 rw [if_pos h]
theorem nStep_turn (bs : List Int) : nStep 0 5 (bs ++ [4]) false = (0, bs ++ [5], false) := by
 unfold nStep
 simp
theorem nStep_noturn (bs : List Int) (x : Int) (h : x ≠ 4) : nStep 0 5 (bs ++ [x]) false = (4, bs ++ [x], false) := by
 unfold nStep
 rw [if_neg (by simp), if_neg (by simp), if_neg (by omega), if_pos rfl, show (bs ++ [x]).getLast? = some x by simp]
 split
 ·rename_i e
  exact absurd (Option.some.inj e) h
 ·rfl
theorem Sq.nest {L : List InsD} {i dp : Nat} {E S : List Int} {e : Int} {j : Nat} {E' S' : List Int} (h : Sq L i dp E S e j E' S') : ∀ bs : List Int, bs.length = dp → (e = 0 → nRun (L.drop i) bs false = nRun (L.drop j) bs false) ∧ (e ≠ 0 → vd (nRun (L.drop i) bs false) = e) := by
 induction h with
 | short i dp E S h =>
  intro bs hb
  refine ⟨(fun h => by cases h), fun _ => ?_⟩
  rw [List.drop_eq_nil_of_le h]
  rfl
 | bad i dp E S h c =>
  intro bs hb
  refine ⟨fun h => absurd h c, fun _ => ?_⟩
  rw [nRun_at L i h, nStep_bad _ _ _ _ c, if_neg c]
  exact vd_err _ c
 | stop => exact fun _ _ => ⟨fun _ => rfl, fun h => absurd rfl h⟩
 | skip i dp E S e j E' S' h c o5 o11 o r ih =>
  intro bs hb
  rw [nRun_at L i h, c, nStep_skip _ _ o o5 o11, if_pos rfl]
  exact ih bs hb
 | deep i dp E S h c o d =>
  intro bs hb
  refine ⟨(fun h => by cases h), fun _ => ?_⟩
  rw [nRun_at L i h, c, nStep_deep _ _ o (by omega)]
  rfl
 | fail1 i dp E S e j E1 S1 h c o d he r ih =>
  intro bs hb
  refine ⟨fun h => absurd h he, fun _ => ?_⟩
  rw [nRun_at L i h, c, nStep_open _ _ o (by omega), if_pos rfl]
  exact (ih (bs ++ [opAt L i]) (by simp [hb])).2 he
 | form1 i dp E S j E1 S1 h c o d r o5 o4 ih =>
  intro bs hb
  refine ⟨(fun h => by cases h), fun _ => ?_⟩
  obtain ⟨_, hj, cj, _⟩ := r.ok rfl
  rw [nRun_at L i h, c, nStep_open _ _ o (by omega), if_pos rfl]
  rw [(ih (bs ++ [opAt L i]) (by simp [hb])).1 rfl, nRun_at L j hj, cj, o5, nStep_noturn _ _ o4]
  rfl
 | block i dp E S j E1 S1 e j' E' S' h c o d r o5 r2 ih ih2 =>
  intro bs hb
  obtain ⟨_, hj, cj, oj⟩ := r.ok rfl
  have o11 : opAt L j = 11 := by rcases oj with h | h; exact absurd h o5; exact h
  have e1 : nRun (L.drop i) bs false = nRun (L.drop (j + 1)) bs false := by
   rw [nRun_at L i h, c, nStep_open _ _ o (by omega), if_pos rfl]
   rw [(ih (bs ++ [opAt L i]) (by simp [hb])).1 rfl, nRun_at L j hj, cj, o11, nStep_11, if_pos rfl]
  rw [e1]
  exact ih2 bs hb
 | fail2 i dp E S j E1 S1 e j2 E2 S2 h c o4 d r o5 r2 he ih ih2 =>
  intro bs hb
  refine ⟨fun h => absurd h he, fun _ => ?_⟩
  obtain ⟨_, hj, cj, oj⟩ := r.ok rfl
  rw [nRun_at L i h, c, nStep_open _ _ (Or.inr (Or.inr o4)) (by omega), if_pos rfl, o4]
  rw [(ih (bs ++ [4]) (by simp [hb])).1 rfl, nRun_at L j hj, cj, o5, nStep_turn, if_pos rfl]
  exact (ih2 (bs ++ [5]) (by simp [hb])).2 he
 | form2 i dp E S j E1 S1 j2 E2 S2 h c o4 d r o5 r2 o52 ih ih2 =>
  intro bs hb
  refine ⟨(fun h => by cases h), fun _ => ?_⟩
  obtain ⟨_, hj, cj, oj⟩ := r.ok rfl
  obtain ⟨_, hj2, cj2, oj2⟩ := r2.ok rfl
  rw [nRun_at L i h, c, nStep_open _ _ (Or.inr (Or.inr o4)) (by omega), if_pos rfl, o4]
  rw [(ih (bs ++ [4]) (by simp [hb])).1 rfl, nRun_at L j hj, cj, o5, nStep_turn, if_pos rfl]
  rw [(ih2 (bs ++ [5]) (by simp [hb])).1 rfl, nRun_at L j2 hj2, cj2, o52, nStep_noturn _ _ (by decide)]
  rfl
 | turn i dp E S j E1 S1 j2 E2 S2 e j' E' S' h c o4 d r o5 r2 o52 r3 ih ih2 ih3 =>
  intro bs hb
  obtain ⟨_, hj, cj, oj⟩ := r.ok rfl
  obtain ⟨_, hj2, cj2, oj2⟩ := r2.ok rfl
  have o11 : opAt L j2 = 11 := by rcases oj2 with h | h; exact absurd h o52; exact h
  have e1 : nRun (L.drop i) bs false = nRun (L.drop (j2 + 1)) bs false := by
   rw [nRun_at L i h, c, nStep_open _ _ (Or.inr (Or.inr o4)) (by omega), if_pos rfl, o4]
   rw [(ih (bs ++ [4]) (by simp [hb])).1 rfl, nRun_at L j hj, cj, o5, nStep_turn, if_pos rfl]
   rw [(ih2 (bs ++ [5]) (by simp [hb])).1 rfl, nRun_at L j2 hj2, cj2, o11, nStep_11, if_pos rfl]
  rw [e1]
  exact ih3 bs hb
end Go.Proofs.YtkceplamaocmmaaGreatDoor
namespace Go.Proofs.YtkceplamaocmmaaGreatDoor
theorem mStep_open (k : Nat) (op : Int) (q : List Nat × List Int × List Int) (o : isO op) : mStep k op q = (q.1 ++ [k], q.2.1, q.2.2) := by
 unfold mStep
 rw [if_pos (show op = 2 ∨ op = 3 ∨ op = 4 from o)]
theorem mStep_skip (k : Nat) (op : Int) (q : List Nat × List Int × List Int) (o : ¬ isO op) (o5 : op ≠ 5) (o11 : op ≠ 11) : mStep k op q = q := by
 unfold mStep
 rw [if_neg (show ¬ (op = 2 ∨ op = 3 ∨ op = 4) from o), if_neg o5, if_neg o11]
theorem mStep_5 (k f : Nat) (op : List Nat) (E S : List Int) : mStep k 5 (op ++ [f], E, S) = (op ++ [f], E, (S.set k (f : Int)).set f (k : Int)) := by
 unfold mStep
 rw [if_neg (by omega), if_pos rfl]
 simp
theorem mStep_11 (k f : Nat) (op : List Nat) (E S : List Int) : mStep k 11 (op ++ [f], E, S) = (op, tieE E S f k, S) := by
 unfold mStep
 rw [if_neg (by omega), if_neg (by omega), if_pos rfl]
 simp
theorem mStep_11nil (k : Nat) (E S : List Int) : mStep k 11 ([], E, S) = ([], E, S) := by
 unfold mStep
 rw [if_neg (by omega), if_neg (by omega), if_pos rfl]
 rfl
structure Alike (n i j : Nat) (T S' S0 : List Int) : Prop where
 len : T.length = n
 within : ∀ p, i ≤ p → p < j → T.getD p 0 = S'.getD p 0
 out : ∀ p, p < i ∨ j ≤ p → T.getD p 0 = S0.getD p 0
theorem Sq.mat {L : List InsD} {i dp : Nat} {E S : List Int} {e : Int} {j : Nat} {E' S' : List Int} (h : Sq L i dp E S e j E' S') : e = 0 → S.length = L.length → (∀ p, i ≤ p → p < L.length → S.getD p 0 = -1) → ∀ (op : List Nat) (S0 : List Int), S0.length = L.length → (∀ p, i ≤ p → p < L.length → S0.getD p 0 = -1) →
  ∃ T, Alike L.length i j T S' S0 ∧ mRun i (L.drop i) (op, E, S0) = mRun j (L.drop j) (op, E', T) := by
 induction h with
 | short => intro h; cases h
 | bad _ _ _ _ _ c => intro h; exact absurd h c
 | stop i dp E S h c o => exact fun _ _ _ op S0 h0 h1 => ⟨S0, ⟨h0, fun p a b => by omega, fun p _ => rfl⟩, rfl⟩
 | skip i dp E S e j E' S' h c o5 o11 o r ih =>
  intro he hS hf op S0 h0 h1
  obtain ⟨a1, _⟩ := r.ok he
  obtain ⟨T, hT, hr⟩ := ih he hS (fun p a b => hf p (by omega) b) op S0 h0 (fun p a b => h1 p (by omega) b)
  refine ⟨T, ⟨hT.len, fun p a b => ?_, fun p a => hT.out p (by omega)⟩, ?_⟩
  ·by_cases hp : p = i
   ·subst hp
    rw [hT.out p (by omega), r.keepS he p (by omega), h1 p (by omega) h, hf p (by omega) h]
   ·exact hT.within p (by omega) b
  ·rw [mRun_at L i h, mStep_skip _ _ _ o o5 o11]
   exact hr
 | deep => intro h; cases h
 | fail1 _ _ _ _ _ _ _ _ _ _ _ _ he => intro h; exact absurd h he
 | form1 => intro h; cases h
 | block i dp E S j E1 S1 e j' E' S' h c o d r o5 r2 ih ih2 =>
  intro he hS hf op S0 h0 h1
  obtain ⟨a1, hj, _, oj⟩ := r.ok rfl
  obtain ⟨a2, hj', _, _⟩ := r2.ok he
  have o11 : opAt L j = 11 := by rcases oj with h | h; exact absurd h o5; exact h
  obtain ⟨T1, hT1, hr1⟩ := ih rfl hS (fun p a b => hf p (by omega) b) (op ++ [i]) S0 h0 (fun p a b => h1 p (by omega) b)
  have hl := r.len
  have n1 : T1.getD i 0 = -1 := by rw [hT1.out i (by omega)]; exact h1 i (by omega) h
  obtain ⟨T, hT, hr⟩ := ih2 he (by omega) (fun p a b => by rw [r.keepS rfl p (by omega)]; exact hf p (by omega) b) op T1 hT1.len (fun p a b => by rw [hT1.out p (by omega)]; exact h1 p (by omega) b)
  refine ⟨T, ⟨hT.len, fun p a b => ?_, fun p a => ?_⟩, ?_⟩
  ·by_cases hp : p < j + 1
   ·rw [hT.out p (by omega), r2.keepS he p (by omega)]
    by_cases hq : i + 1 ≤ p ∧ p < j
    ·exact hT1.within p hq.1 hq.2
    ·rw [hT1.out p (by omega), r.keepS rfl p (by omega), h1 p (by omega) (by omega), hf p (by omega) (by omega)]
   ·exact hT.within p (by omega) b
  ·rw [hT.out p (by omega), hT1.out p (by omega)]
  ·rw [mRun_at L i h, mStep_open _ _ _ o]
   simp only
   rw [hr1, mRun_at L j hj, o11, mStep_11]
   unfold tieE
   rw [if_pos n1]
   exact hr
 | fail2 _ _ _ _ _ _ _ _ _ _ _ _ _ _ _ _ _ _ he => intro h; exact absurd h he
 | form2 => intro h; cases h
 | turn i dp E S j E1 S1 j2 E2 S2 e j' E' S' h c o4 d r o5 r2 o52 r3 ih ih2 ih3 =>
  intro he hS hf op S0 h0 h1
  obtain ⟨a1, hj, _, _⟩ := r.ok rfl
  obtain ⟨a2, hj2, _, oj2⟩ := r2.ok rfl
  obtain ⟨a3, hj', _, _⟩ := r3.ok he
  have o11 : opAt L j2 = 11 := by rcases oj2 with h | h; exact absurd h o52; exact h
  have hl := r.len
  have hl2 := r2.len
  have f1 : ∀ p, j ≤ p → p < L.length → S1.getD p 0 = -1 := fun p a b => by rw [r.keepS rfl p (by omega)]; exact hf p (by omega) b
  have f2 : ∀ p, j2 ≤ p → p < L.length → S2.getD p 0 = -1 := fun p a b => by rw [r2.keepS rfl p (by omega)]; exact f1 p (by omega) b
  obtain ⟨T1, hT1, hr1⟩ := ih rfl hS (fun p a b => hf p (by omega) b) (op ++ [i]) S0 h0 (fun p a b => h1 p (by omega) b)
  have l1 := hT1.len
  have g1 : ∀ p, ((T1.set j (i : Int)).set i (j : Int)).getD p 0 = if p = i then (j : Int) else if p = j then (i : Int) else T1.getD p 0 := by
   intro p
   rw [getD_set, getD_set, List.length_set]
   by_cases hp : p = i
   ·subst hp
    rw [if_pos ⟨rfl, by omega⟩, if_pos rfl]
   ·rw [if_neg (by omega), if_neg hp]
    by_cases hq : p = j
    ·subst hq
     rw [if_pos ⟨rfl, by omega⟩, if_pos rfl]
    ·rw [if_neg (by omega), if_neg hq]
  obtain ⟨T2, hT2, hr2⟩ := ih2 rfl (by omega) (fun p a b => f1 p (by omega) b) (op ++ [i]) ((T1.set j (i : Int)).set i (j : Int)) (by simp [l1]) (fun p a b => by rw [g1, if_neg (by omega), if_neg (by omega), hT1.out p (by omega)]; exact h1 p (by omega) b)
  have n2 : T2.getD i 0 = (j : Int) := by rw [hT2.out i (by omega), g1, if_pos rfl]
  have g3 : ∀ p, ((S2.set i (j : Int)).set j (i : Int)).getD p 0 = if p = i then (j : Int) else if p = j then (i : Int) else S2.getD p 0 := by
   intro p
   rw [getD_set, getD_set, List.length_set]
   by_cases hq : p = j
   ·subst hq
    rw [if_pos ⟨rfl, by omega⟩, if_neg (by omega), if_pos rfl]
   ·rw [if_neg (by omega)]
    by_cases hp : p = i
    ·subst hp
     rw [if_pos ⟨rfl, by omega⟩, if_pos rfl]
    ·rw [if_neg (by omega), if_neg hp, if_neg hq]
  obtain ⟨T, hT, hr⟩ := ih3 he (by simp only [List.length_set]; omega) (fun p a b => by rw [g3, if_neg (by omega), if_neg (by omega)]; exact f2 p (by omega) b) op T2 hT2.len (fun p a b => by rw [hT2.out p (by omega), g1, if_neg (by omega), if_neg (by omega), hT1.out p (by omega)]; exact h1 p (by omega) b)
  refine ⟨T, ⟨hT.len, fun p a b => ?_, fun p a => ?_⟩, ?_⟩
  ·by_cases hp : p < j2 + 1
   ·rw [hT.out p (by omega), r3.keepS he p (by omega), g3]
    by_cases hq : j + 1 ≤ p ∧ p < j2
    ·rw [if_neg (by omega), if_neg (by omega)]
     exact hT2.within p hq.1 hq.2
    ·rw [hT2.out p (by omega), g1]
     by_cases hi : p = i
     ·rw [if_pos hi, if_pos hi]
     ·rw [if_neg hi, if_neg hi]
      by_cases hk : p = j
      ·rw [if_pos hk, if_pos hk]
      ·rw [if_neg hk, if_neg hk, r2.keepS rfl p (by omega)]
       by_cases hz : p < j
       ·exact hT1.within p (by omega) hz
       ·rw [hT1.out p (by omega), h1 p (by omega) (by omega), f1 p (by omega) (by omega)]
   ·exact hT.within p (by omega) b
  ·rw [hT.out p (by omega), hT2.out p (by omega), g1, if_neg (by omega), if_neg (by omega), hT1.out p (by omega)]
  ·rw [mRun_at L i h, mStep_open _ _ _ (Or.inr (Or.inr o4))]
   simp only
   rw [hr1, mRun_at L j hj, o5, mStep_5, hr2, mRun_at L j2 hj2, o11, mStep_11]
   unfold tieE
   rw [n2, if_neg (by omega)]
   exact hr
theorem all_err {L : List InsD} {E S : List Int} {e : Int} {j : Nat} {E' S' : List Int} (h : Sq L 0 0 E S e j E' S') (he : e ≠ 0) : vd (nRun L [] false) = e := (h.nest [] rfl).2 he
theorem all_turn {L : List InsD} {E S : List Int} {j : Nat} {E' S' : List Int} (h : Sq L 0 0 E S 0 j E' S') (o : opAt L j = 5) : vd (nRun L [] false) = 4 := by
 obtain ⟨_, hj, cj, _⟩ := h.ok rfl
 have e := (h.nest [] rfl).1 rfl
 rw [List.drop_zero] at e
 rw [e, nRun_at L j hj, cj, o]
 rfl
theorem all_end {L : List InsD} {E S : List Int} {j : Nat} {E' S' : List Int} (h : Sq L 0 0 E S 0 j E' S') (o : opAt L j ≠ 5) : nRun L [] false = nRun (L.drop (j + 1)) [] true := by
 obtain ⟨_, hj, cj, oj⟩ := h.ok rfl
 have o11 : opAt L j = 11 := by rcases oj with h | h; exact absurd h o; exact h
 have e := (h.nest [] rfl).1 rfl
 rw [List.drop_zero] at e
 rw [e, nRun_at L j hj, cj, o11]
 rfl
theorem all_more {L : List InsD} {E S : List Int} {j : Nat} {E' S' : List Int} (h : Sq L 0 0 E S 0 j E' S') (o : opAt L j ≠ 5) (hj : j + 1 < L.length) : vd (nRun L [] false) = if chkAt L (j + 1) = 0 then 4 else chkAt L (j + 1) := by
 rw [all_end h o, nRun_at L (j + 1) hj]
 by_cases hc : chkAt L (j + 1) = 0
 ·rw [if_pos hc, hc]
  rfl
 ·rw [if_neg hc, nStep_bad _ _ _ _ hc, if_neg hc]
  exact vd_err _ hc
theorem all_ok {L : List InsD} {j : Nat} {E' S' : List Int} (h : Sq L 0 0 (List.replicate L.length (-1)) (List.replicate L.length (-1)) 0 j E' S') (o : opAt L j ≠ 5) (hj : j + 1 = L.length) : vd (nRun L [] false) = 0 ∧ matchOf L = ([], E', S') := by
 obtain ⟨_, hj', cj, oj⟩ := h.ok rfl
 have o11 : opAt L j = 11 := by rcases oj with h | h; exact absurd h o; exact h
 have hn : L.drop (j + 1) = [] := List.drop_eq_nil_of_le (by omega)
 constructor
 ·rw [all_end h o, hn]
  rfl
 ·have hf : ∀ p, 0 ≤ p → p < L.length → (List.replicate L.length (-1 : Int)).getD p 0 = -1 := fun p _ hp => by
   rw [List.getD_eq_getElem?_getD, List.getElem?_replicate, if_pos hp]
   rfl
  obtain ⟨T, hT, hr⟩ := h.mat rfl (by simp) hf [] (List.replicate L.length (-1)) (by simp) hf
  rw [List.drop_zero, mRun_at L j hj', o11, mStep_11nil, hn, mRun] at hr
  unfold matchOf
  rw [hr]
  have hl := h.len.2
  rw [List.length_replicate] at hl
  have hE : T = S' := by
   refine List.ext_getElem (by rw [hT.len, hl]) fun p p1 p2 => ?_
   have e : T.getD p 0 = S'.getD p 0 := by
    by_cases hp : p < j
    ·exact hT.within p (by omega) hp
    ·rw [hT.out p (by omega), h.keepS rfl p (by omega)]
   rw [List.getD_eq_getElem?_getD, List.getD_eq_getElem?_getD, List.getElem?_eq_getElem p1, List.getElem?_eq_getElem p2] at e
   exact e
  rw [hE]
end Go.Proofs.YtkceplamaocmmaaGreatDoor
