/-
  The parts of a body that was matched: plain mathematics.
  What the program's own nest.copied does.
  How deep a body is, and how many blocks it has: plain mathematics.
-/
import Derived.Test.YtkceplamaocmmaaGreatDoorZGSq
import Derived.Test.YtkceplamaocmmaaGreatDoorZPU
import Derived.Laws.AppendOwn
import Derived.Laws.AppendOwnNone
import Derived.Laws.OwnMore
import Derived.Deep.RegionHeld3
import Derived.Laws.BitsLemmas
namespace Go.Proofs.YtkceplamaocmmaaGreatDoor
set_option linter.unusedVariables false
theorem Sq.keepE {L : List InsD} {i dp : Nat} {E S : List Int} {e : Int} {j : Nat} {E' S' : List Int} (h : Sq L i dp E S e j E' S') : e = 0 → ∀ p, p < i ∨ j ≤ p → E'.getD p 0 = E.getD p 0 := by
  induction h with
  | short => intro h; cases h
  | bad _ _ _ _ _ c => intro h; exact absurd h c
  | stop => exact fun _ _ _ => rfl
  | skip _ _ _ _ _ _ _ _ _ _ _ _ _ _ ih => exact fun h p hp => ih h p (by omega)
  | deep => intro h; cases h
  | fail1 _ _ _ _ _ _ _ _ _ _ _ _ he => intro h; exact absurd h he
  | form1 => intro h; cases h
  | block _ _ _ _ _ _ _ _ _ _ _ _ _ _ _ r _ r2 ih ih2 =>
    intro h p hp
    obtain ⟨a1, _⟩ := r.ok rfl
    obtain ⟨a2, _⟩ := r2.ok h
    rw [ih2 h p (by omega), getD_set, if_neg (by omega), getD_set, if_neg (by omega), ih rfl p (by omega)]
  | fail2 _ _ _ _ _ _ _ _ _ _ _ _ _ _ _ _ _ _ he => intro h; exact absurd h he
  | form2 => intro h; cases h
  | turn _ _ _ _ _ _ _ _ _ _ _ _ _ _ _ _ _ _ r _ r2 _ r3 ih ih2 ih3 =>
    intro h p hp
    obtain ⟨a1, _⟩ := r.ok rfl
    obtain ⟨a2, _⟩ := r2.ok rfl
    obtain ⟨a3, _⟩ := r3.ok h
    rw [ih3 h p (by omega), getD_set, if_neg (by omega), getD_set, if_neg (by omega), getD_set, if_neg (by omega), ih2 rfl p (by omega), ih rfl p (by omega)]
inductive Seg (L : List InsD) (E S : List Int) : Nat → Nat → Nat → Nat → Prop
  | nil (i : Nat) (h : i < L.length) : Seg L E S i i 0 0
  | single (i j d s : Nat) (h : i < j) (o : ¬ isO (opAt L i)) (o5 : opAt L i ≠ 5) (o11 : opAt L i ≠ 11) (e : E.getD i 0 = -1) (r : Seg L E S (i + 1) j d s) : Seg L E S i j d s
  | block (i q j d1 s1 d s : Nat) (h : i < q) (hq : q < j) (o : opAt L i = 2 ∨ opAt L i = 3) (oq : opAt L q = 11) (e : E.getD i 0 = (q : Int)) (r1 : Seg L E S (i + 1) q d1 s1) (r : Seg L E S (q + 1) j d s) : Seg L E S i j (max (1 + d1) d) (1 + s1 + s)
  | ifN (i q j d1 s1 d s : Nat) (h : i < q) (hq : q < j) (o : opAt L i = 4) (oq : opAt L q = 11) (e : E.getD i 0 = (q : Int)) (t : S.getD i 0 = -1) (r1 : Seg L E S (i + 1) q d1 s1) (r : Seg L E S (q + 1) j d s) : Seg L E S i j (max (1 + d1) d) (1 + s1 + s)
  | ifE (i t q j d1 s1 d2 s2 d s : Nat) (h : i < t) (ht : t < q) (hq : q < j) (o : opAt L i = 4) (ot : opAt L t = 5) (oq : opAt L q = 11) (e : E.getD i 0 = (q : Int)) (te : S.getD i 0 = (t : Int)) (r1 : Seg L E S (i + 1) t d1 s1) (r2 : Seg L E S (t + 1) q d2 s2) (r : Seg L E S (q + 1) j d s) : Seg L E S i j (max (max (1 + d1) (1 + d2)) d) (1 + s1 + s2 + s)
theorem Seg.le {L : List InsD} {E S : List Int} {i j d s : Nat} (h : Seg L E S i j d s) : i ≤ j ∧ j < L.length := by
  induction h with
  | nil i h => exact ⟨Nat.le_refl _, h⟩
  | single _ _ _ _ _ _ _ _ _ _ ih => omega
  | block _ _ _ _ _ _ _ _ _ _ _ _ _ _ ih1 ih => omega
  | ifN _ _ _ _ _ _ _ _ _ _ _ _ _ _ _ ih1 ih => omega
  | ifE _ _ _ _ _ _ _ _ _ _ _ _ _ _ _ _ _ _ _ _ _ ih1 ih2 ih => omega
theorem Sq.seg {L : List InsD} {i dp : Nat} {E S : List Int} {e : Int} {j : Nat} {E' S' : List Int} (h : Sq L i dp E S e j E' S') : e = 0 → E.length = L.length → S.length = L.length → (∀ p, i ≤ p → p < L.length → E.getD p 0 = -1 ∧ S.getD p 0 = -1) → ∀ Ef Sf : List Int, (∀ p, i ≤ p → p < j → Ef.getD p 0 = E'.getD p 0 ∧ Sf.getD p 0 = S'.getD p 0) → ∃ d s, Seg L Ef Sf i j d s := by
  induction h with
  | short => intro h; cases h
  | bad _ _ _ _ _ c => intro h; exact absurd h c
  | stop i dp E S h c o => exact fun _ _ _ _ _ _ _ => ⟨0, 0, Seg.nil i h⟩
  | skip i dp E S e j E' S' h c o5 o11 o r ih =>
    intro he hE hS h1 Ef Sf hf
    obtain ⟨a1, _⟩ := r.ok he
    obtain ⟨d, s, hs⟩ := ih he hE hS (fun p a b => h1 p (by omega) b) Ef Sf (fun p a b => hf p (by omega) b)
    refine ⟨d, s, Seg.single i j d s (by omega) o o5 o11 ?_ hs⟩
    rw [(hf i (Nat.le_refl _) (by omega)).1, r.keepE he i (by omega)]
    exact (h1 i (Nat.le_refl _) h).1
  | deep => intro h; cases h
  | fail1 _ _ _ _ _ _ _ _ _ _ _ _ he => intro h; exact absurd h he
  | form1 => intro h; cases h
  | block i dp E S j E1 S1 e j' E' S' h c o d r o5 r2 ih ih2 =>
    intro he hE hS h1 Ef Sf hf
    obtain ⟨a1, b1, _, oj⟩ := r.ok rfl
    obtain ⟨a2, b2, _, _⟩ := r2.ok he
    have o11 : opAt L j = 11 := by rcases oj with h | h; exact absurd h o5; exact h
    have hl := r.len
    have q1 : ∀ p, p < j + 1 → Ef.getD p 0 = Ef.getD p 0 := fun _ _ => rfl
    have k2 : ∀ p, p < j + 1 → E'.getD p 0 = ((E1.set i (j : Int)).set j (i : Int)).getD p 0 := fun p hp => r2.keepE he p (by omega)
    have k3 : ∀ p, p < j + 1 → S'.getD p 0 = S1.getD p 0 := fun p hp => r2.keepS he p (by omega)
    obtain ⟨d1, s1, hs1⟩ := ih rfl hE hS (fun p a b => h1 p (by omega) b) Ef Sf (fun p a b => by
      rw [(hf p (by omega) (by omega)).1, (hf p (by omega) (by omega)).2, k2 p (by omega), k3 p (by omega), getD_set, if_neg (by omega), getD_set, if_neg (by omega)]
      exact ⟨rfl, rfl⟩)
    obtain ⟨d2, s2, hs2⟩ := ih2 he (by simp; omega) (by omega) (fun p a b => by
      rw [getD_set, if_neg (by omega), getD_set, if_neg (by omega), r.keepE rfl p (by omega), r.keepS rfl p (by omega)]
      exact h1 p (by omega) b) Ef Sf (fun p a b => hf p (by omega) b)
    have eE : Ef.getD i 0 = (j : Int) := by
      rw [(hf i (Nat.le_refl _) (by omega)).1, k2 i (by omega), getD_set, if_neg (by omega), getD_set, if_pos ⟨rfl, by omega⟩]
    have eS : Sf.getD i 0 = -1 := by
      rw [(hf i (Nat.le_refl _) (by omega)).2, k3 i (by omega), r.keepS rfl i (by omega)]
      exact (h1 i (Nat.le_refl _) h).2
    rcases o with o | o | o
    · exact ⟨_, _, Seg.block i j j' d1 s1 d2 s2 (by omega) (by omega) (Or.inl o) o11 eE hs1 hs2⟩
    · exact ⟨_, _, Seg.block i j j' d1 s1 d2 s2 (by omega) (by omega) (Or.inr o) o11 eE hs1 hs2⟩
    · exact ⟨_, _, Seg.ifN i j j' d1 s1 d2 s2 (by omega) (by omega) o o11 eE eS hs1 hs2⟩
  | fail2 _ _ _ _ _ _ _ _ _ _ _ _ _ _ _ _ _ _ he => intro h; exact absurd h he
  | form2 => intro h; cases h
  | turn i dp E S j E1 S1 j2 E2 S2 e j' E' S' h c o4 d r o5 r2 o52 r3 ih ih2 ih3 =>
    intro he hE hS h1 Ef Sf hf
    obtain ⟨a1, b1, _, _⟩ := r.ok rfl
    obtain ⟨a2, b2, _, oj2⟩ := r2.ok rfl
    obtain ⟨a3, b3, _, _⟩ := r3.ok he
    have o11 : opAt L j2 = 11 := by rcases oj2 with h | h; exact absurd h o52; exact h
    have hl := r.len
    have hl2 := r2.len
    have k2 : ∀ p, p < j2 + 1 → E'.getD p 0 = (((E2.set i (j2 : Int)).set j2 (i : Int)).set j (j2 : Int)).getD p 0 := fun p hp => r3.keepE he p (by omega)
    have k3 : ∀ p, p < j2 + 1 → S'.getD p 0 = ((S2.set i (j : Int)).set j (i : Int)).getD p 0 := fun p hp => r3.keepS he p (by omega)
    obtain ⟨d1, s1, hs1⟩ := ih rfl hE hS (fun p a b => h1 p (by omega) b) Ef Sf (fun p a b => by
      rw [(hf p (by omega) (by omega)).1, (hf p (by omega) (by omega)).2, k2 p (by omega), k3 p (by omega), getD_set, if_neg (by omega), getD_set, if_neg (by omega), getD_set, if_neg (by omega), getD_set, if_neg (by omega), getD_set, if_neg (by omega), r2.keepE rfl p (by omega), r2.keepS rfl p (by omega)]
      exact ⟨rfl, rfl⟩)
    obtain ⟨d2, s2, hs2⟩ := ih2 rfl (by omega) (by omega) (fun p a b => by
      rw [r.keepE rfl p (by omega), r.keepS rfl p (by omega)]
      exact h1 p (by omega) b) Ef Sf (fun p a b => by
      rw [(hf p (by omega) (by omega)).1, (hf p (by omega) (by omega)).2, k2 p (by omega), k3 p (by omega), getD_set, if_neg (by omega), getD_set, if_neg (by omega), getD_set, if_neg (by omega), getD_set, if_neg (by omega), getD_set, if_neg (by omega)]
      exact ⟨rfl, rfl⟩)
    obtain ⟨d3, s3, hs3⟩ := ih3 he (by simp; omega) (by simp; omega) (fun p a b => by
      rw [getD_set, if_neg (by omega), getD_set, if_neg (by omega), getD_set, if_neg (by omega), getD_set, if_neg (by omega), getD_set, if_neg (by omega), r2.keepE rfl p (by omega), r2.keepS rfl p (by omega), r.keepE rfl p (by omega), r.keepS rfl p (by omega)]
      exact h1 p (by omega) b) Ef Sf (fun p a b => hf p (by omega) b)
    have eE : Ef.getD i 0 = (j2 : Int) := by
      rw [(hf i (Nat.le_refl _) (by omega)).1, k2 i (by omega), getD_set, if_neg (by omega), getD_set, if_neg (by omega), getD_set, if_pos ⟨rfl, by omega⟩]
    have eS : Sf.getD i 0 = (j : Int) := by
      rw [(hf i (Nat.le_refl _) (by omega)).2, k3 i (by omega), getD_set, if_neg (by omega), getD_set, if_pos ⟨rfl, by omega⟩]
    exact ⟨_, _, Seg.ifE i j j2 j' d1 s1 d2 s2 d3 s3 (by omega) (by omega) (by omega) o4 o5 o11 eE eS hs1 hs2 hs3⟩
theorem Sq.total (L : List InsD) : ∀ (m i dp : Nat) (E S : List Int), L.length - i ≤ m → ∃ e j E' S', Sq L i dp E S e j E' S'
  | 0, i, dp, E, S, hm => ⟨_, _, _, _, Sq.short i dp E S (by omega)⟩
  | m + 1, i, dp, E, S, hm => by
    by_cases h : L.length ≤ i
    · exact ⟨_, _, _, _, Sq.short i dp E S h⟩
    · have h : i < L.length := by omega
      by_cases c : chkAt L i = 0
      · by_cases o5 : opAt L i = 5
        · exact ⟨_, _, _, _, Sq.stop i dp E S h c (Or.inl o5)⟩
        by_cases o11 : opAt L i = 11
        · exact ⟨_, _, _, _, Sq.stop i dp E S h c (Or.inr o11)⟩
        by_cases o : isO (opAt L i)
        · by_cases d : dp = 12
          · exact ⟨_, _, _, _, Sq.deep i dp E S h c o d⟩
          · obtain ⟨e, j, E1, S1, r⟩ := Sq.total L m (i + 1) (dp + 1) E S (by omega)
            by_cases he : e = 0
            · subst he
              obtain ⟨a1, b1, _, _⟩ := r.ok rfl
              by_cases oj : opAt L j = 5
              · by_cases o4 : opAt L i = 4
                · obtain ⟨e2, j2, E2, S2, r2⟩ := Sq.total L m (j + 1) (dp + 1) E1 S1 (by omega)
                  by_cases he2 : e2 = 0
                  · subst he2
                    obtain ⟨a2, b2, _, _⟩ := r2.ok rfl
                    by_cases o52 : opAt L j2 = 5
                    · exact ⟨_, _, _, _, Sq.form2 i dp E S j E1 S1 j2 E2 S2 h c o4 d r oj r2 o52⟩
                    · obtain ⟨e3, j3, E3, S3, r3⟩ := Sq.total L m (j2 + 1) dp _ _ (by omega)
                      exact ⟨_, _, _, _, Sq.turn i dp E S j E1 S1 j2 E2 S2 e3 j3 E3 S3 h c o4 d r oj r2 o52 r3⟩
                  · exact ⟨_, _, _, _, Sq.fail2 i dp E S j E1 S1 e2 j2 E2 S2 h c o4 d r oj r2 he2⟩
                · exact ⟨_, _, _, _, Sq.form1 i dp E S j E1 S1 h c o d r oj o4⟩
              · obtain ⟨e3, j3, E3, S3, r3⟩ := Sq.total L m (j + 1) dp ((E1.set i (j : Int)).set j (i : Int)) S1 (by omega)
                exact ⟨_, _, _, _, Sq.block i dp E S j E1 S1 e3 j3 E3 S3 h c o d r oj r3⟩
            · exact ⟨_, _, _, _, Sq.fail1 i dp E S e j E1 S1 h c o d he r⟩
        · obtain ⟨e, j, E1, S1, r⟩ := Sq.total L m (i + 1) dp E S (by omega)
          exact ⟨_, _, _, _, Sq.skip i dp E S e j E1 S1 h c o5 o11 o r⟩
      · exact ⟨_, _, _, _, Sq.bad i dp E S h c⟩
theorem match_seg (L : List InsD) (h : nChk L = 0) : opAt L (L.length - 1) = 11 ∧ ∃ d s, Seg L (matchOf L).2.1 (matchOf L).2.2 0 (L.length - 1) d s := by
  obtain ⟨h200, hr1, hr2, hpos⟩ := nChk_ok L h
  have hvd : vd (nRun L [] false) = 0 := by
    unfold vd
    rw [if_pos hr1, if_pos hr2]
  obtain ⟨e, j, E', S', r⟩ := Sq.total L L.length 0 0 (List.replicate L.length (-1)) (List.replicate L.length (-1)) (by omega)
  by_cases he : e = 0
  · subst he
    obtain ⟨_, hj, _, oj⟩ := r.ok rfl
    by_cases o5 : opAt L j = 5
    · rw [all_turn r o5] at hvd
      cases hvd
    · by_cases hlast : j + 1 = L.length
      · have hm := (all_ok r o5 hlast).2
        rw [hm]
        have hjj : L.length - 1 = j := by omega
        rw [hjj]
        refine ⟨by rcases oj with h | h; exact absurd h o5; exact h, ?_⟩
        refine r.seg rfl (by simp) (by simp) (fun p _ hp => ?_) E' S' (fun p _ _ => ⟨rfl, rfl⟩)
        rw [List.getD_eq_getElem?_getD, List.getElem?_replicate, if_pos hp]
        exact ⟨rfl, rfl⟩
      · rw [all_more r o5 (by omega)] at hvd
        split at hvd
        · cases hvd
        · rename_i hc
          exact absurd hvd hc
  · rw [all_err r he] at hvd
    exact absurd hvd he
end Go.Proofs.YtkceplamaocmmaaGreatDoor
namespace Go.Proofs.YtkceplamaocmmaaGreatDoor
set_option linter.unusedVariables false
open Go.RowKit
def OkT (w : World) (d : InsD) : Prop := d.ok w ∧ (0 < d.n → ∃ (g : Addr) (cur : Array Value) (f : Nat × Nat), d.o = some g ∧ w.heap[g.block]? = some (.cells cur 2 f))
theorem ownI {w : World} {B cap n : Nat} {o : Option Addr} {xs : List Int} {op A B' : Int} (h : w.ownsRow B 2 1 (.slice o n cap) n (xs.map (Value.int .i64))) (h0 : 0 ≤ op) (h1 : op ≤ 255) (hA : -9223372036854775808 ≤ A ∧ A ≤ 9223372036854775807) : OkT w ⟨op, A, B', o, n, cap, xs⟩ := by
  have hl : xs.length = n := by have := h.1; simpa using this
  rcases h.2 with ⟨hv, hn⟩ | ⟨g, c, cur, hv, hb, hg, hc, hm, _⟩
  · simp only [Value.slice.injEq] at hv
    obtain ⟨rfl, _, rfl⟩ := hv
    exact ⟨⟨h0, h1, hA, by simp only; omega, by unfold maxLen; simp, ⟨hl, Or.inl hn⟩, fun _ => rfl⟩, fun h => by simp only at h; omega⟩
  · simp only [Value.slice.injEq] at hv
    obtain ⟨rfl, _, rfl⟩ := hv
    refine ⟨⟨h0, h1, hA, hc, hm, ⟨hl, ?_⟩, by simp⟩, fun _ => ⟨_, cur, _, rfl, hg⟩⟩
    rcases Nat.eq_zero_or_pos n with h0 | h0
    · exact Or.inl h0
    · right
      refine ⟨⟨g, 0, none⟩, rfl, (h.lt g rfl).2, fun i hi => ?_⟩
      have hi2 : i < xs.length := by simp only at hi; omega
      exact h.cells (g := g) rfl i (.int .i64 (xs.getD i 0)) (by
        rw [List.getElem?_map, List.getElem?_eq_getElem hi2, List.getD_eq_getElem?_getD, List.getElem?_eq_getElem hi2]
        rfl)
theorem own_put {w : World} {B k : Nat} {e : TypeId} {v : Value} {xs : List Value} (h : w.ownsRow B e 1 v k xs) (P i : Nat) (u : Value) (hf : v.ownBlock ≠ some P) : (w.setCell ⟨P, i, none⟩ u).ownsRow B e 1 v k xs := ownsRow_setCell_other h hf u
end Go.Proofs.YtkceplamaocmmaaGreatDoor
namespace Go.Proofs.YtkceplamaocmmaaGreatDoor
set_option linter.unusedVariables false
def ndStep (op : Int) (q : Int × Int × Int) : Int × Int × Int :=
  let o1 := if 2 ≤ op ∧ op ≤ 4 then q.1 + 1 else q.1
  let a1 := if 2 ≤ op ∧ op ≤ 4 then q.2.2 + 1 else q.2.2
  let o2 := if op = 11 then o1 - 1 else o1
  (o2, max q.2.1 o2, a1)
def ndRun : List Int → Int × Int × Int → Int × Int × Int
  | [], q => q
  | op :: l, q => ndRun l (ndStep op q)
theorem ndRun_app : ∀ (l m : List Int) (q : Int × Int × Int), ndRun (l ++ m) q = ndRun m (ndRun l q)
  | [], _, _ => rfl
  | op :: l, m, q => by
    rw [List.cons_append, ndRun, ndRun]
    exact ndRun_app l m _
theorem nd_open (op : Int) (h : isO op) (o m a : Int) : ndStep op (o, m, a) = (o + 1, max m (o + 1), a + 1) := by
  have h' : 2 ≤ op ∧ op ≤ 4 := by rcases h with h | h | h <;> omega
  unfold ndStep
  simp only
  rw [if_pos h', if_pos h', if_neg (by omega)]
theorem nd_end (o m a : Int) : ndStep 11 (o, m, a) = (o - 1, max m (o - 1), a) := by
  unfold ndStep
  simp
theorem nd_skip (op : Int) (h : ¬ isO op) (h11 : op ≠ 11) (o m a : Int) (hm : o ≤ m) : ndStep op (o, m, a) = (o, m, a) := by
  have h' : ¬ (2 ≤ op ∧ op ≤ 4) := fun hh => h (by unfold isO; omega)
  unfold ndStep
  simp only
  rw [if_neg h', if_neg h', if_neg h11, show max m o = m by omega]
end Go.Proofs.YtkceplamaocmmaaGreatDoor
