/-
  What the reading and the writing of a module say, over lists of bytes: plain mathematics.
-/
import Derived.Test.YtfmmefmpjejioaaNRd1
namespace Go.Proofs.Ytfmmefmpjejioaa
open Go.RowKit

/-- A reading: an error, or what is read and what is left. -/
abbrev Rd (α : Type) := List Int → Except Int (α × List Int)
/-- Two readings, one behind the other. -/
def nxt {α β : Type} (x : Rd α) (f : α → Rd β) : Rd β := fun l => match x l with
  | .error e => .error e
  | .ok (a, r) => f a r
def ret {α : Type} (a : α) : Rd α := fun l => .ok (a, l)
def need (b : Bool) (e : Int) : Rd Unit := fun l => if b = true then .ok ((), l) else .error e
/-- Bytes. -/
def Bts (l : List Int) : Prop := ∀ b ∈ l, 0 ≤ b ∧ b < 256
theorem Bts.suf {l r : List Int} (h : Bts l) (hs : r <:+ l) : Bts r := fun b hb => h b (hs.subset hb)
theorem nxt_ok {α β : Type} {x : Rd α} {f : α → Rd β} {l : List Int} {b : β} {r : List Int} (h : nxt x f l = .ok (b, r)) : ∃ a r1, x l = .ok (a, r1) ∧ f a r1 = .ok (b, r) := by
  unfold nxt at h
  cases hx : x l with
  | error e => rw [hx] at h; cases h
  | ok p => obtain ⟨a, r1⟩ := p; rw [hx] at h; exact ⟨a, r1, rfl, h⟩
theorem nxt_of {α β : Type} {x : Rd α} {f : α → Rd β} {l : List Int} {a : α} {r : List Int} (h : x l = .ok (a, r)) : nxt x f l = f a r := by
  unfold nxt
  rw [h]
theorem nxt_err {α β : Type} {x : Rd α} {f : α → Rd β} {l : List Int} {e : Int} (h : x l = .error e) : nxt x f l = .error e := by
  unfold nxt
  rw [h]
theorem need_ok {b : Bool} {e : Int} {l r : List Int} {u : Unit} (h : need b e l = .ok (u, r)) : b = true ∧ r = l := by
  unfold need at h
  cases b with
  | true => simp at h; exact ⟨rfl, h.symm⟩
  | false => simp at h
theorem need_t (e : Int) (l : List Int) : need true e l = .ok ((), l) := rfl
theorem need_of {b : Bool} (h : b = true) (e : Int) (l : List Int) : need b e l = .ok ((), l) := by rw [h]; rfl
/-- A way to write and to read: what is written is read as it was; what is read is well, and no shorter than what is written. -/
structure Cod {α : Type} (p : Rd α) (G : α → Prop) (t : α → List Int) : Prop where
  ok : ∀ l a r, Bts l → p l = .ok (a, r) → G a ∧ r <:+ l ∧ (t a).length + r.length ≤ l.length
  back : ∀ a more, G a → p (t a ++ more) = .ok (a, more)

/-! ### The smallest -/
def rNext : Rd Int
  | [] => .error 3
  | b :: r => .ok (b, r)
def rFix (want e : Int) : Rd Unit := nxt rNext fun b => need (b == want) e
def rNum : Rd Int := fun l => if (rU 32 l).2.2 = 0 then .ok ((rU 32 l).1, l.drop (rU 32 l).2.1.toNat) else .error (rU 32 l).2.2
def rSgn (B : Int) : Rd Int := fun l => if (rS B l).2.2 = 0 then .ok ((rS B l).1, l.drop (rS B l).2.1.toNat) else .error (rS B l).2.2
def rPiece (n : Int) : Rd (List Int) := fun l => if n ≤ (l.length : Int) then .ok (l.take n.toNat, l.drop n.toNat) else .error 3
def rCount (most : Int) : Rd Int := nxt rNum fun n => nxt (need (decide (n ≤ most)) 2) fun _ => ret n
theorem rNext_ok {l r : List Int} {b : Int} (h : rNext l = .ok (b, r)) : l = b :: r := by
  cases l with
  | nil => cases h
  | cons c l => simp only [rNext, Except.ok.injEq, Prod.mk.injEq] at h; rw [h.1, h.2]
theorem rFix_ok {want e : Int} {l r : List Int} {u : Unit} (h : rFix want e l = .ok (u, r)) : l = want :: r := by
  obtain ⟨b, r1, h1, h2⟩ := nxt_ok h
  obtain ⟨h3, rfl⟩ := need_ok h2
  rw [rNext_ok h1, eq_of_beq h3]
theorem rFix_back (want e : Int) (more : List Int) : rFix want e (want :: more) = .ok ((), more) := by
  unfold rFix
  rw [nxt_of (show rNext (want :: more) = .ok (want, more) from rfl)]
  exact need_of (by simp) _ _
theorem cod_num : Cod rNum isNum fun n => uB n.toNat := by
  constructor
  · intro l a r hl h
    unfold rNum at h
    split at h
    · rename_i h0
      simp only [Except.ok.injEq, Prod.mk.injEq] at h
      obtain ⟨rfl, rfl⟩ := h
      have hm : (mNum l 0).2.2 = 0 := by unfold mNum; rw [if_pos h0]
      have e1 : (mNum l 0).1 = (rU 32 l).1 := by unfold mNum; rw [if_pos h0]
      have e2 : (mNum l 0).2.1 = l.drop (rU 32 l).2.1.toNat := by unfold mNum; rw [if_pos h0]
      obtain ⟨_, q2, k, q3, q4, q5⟩ := mNum_ok l 0 hl hm
      rw [e1] at q2 q3
      rw [← e2, q5]
      exact ⟨q2, List.drop_suffix _ _, by rw [List.length_drop]; omega⟩
    · cases h
  · intro a more ha
    have h := mNum_back a ha more 0
    unfold rNum
    unfold mNum at h
    split at h
    · rename_i h0
      simp only [Prod.mk.injEq] at h
      rw [if_pos h0, h.1, h.2.1]
    · rename_i h0
      simp only [Prod.mk.injEq] at h
      have := h.2.2
      rw [fstE_zero] at this
      exact absurd this h0
/-- A number of so many bits with its sign. -/
def isSgn (B x : Int) : Prop := (B = 32 ∧ -2147483648 ≤ x ∧ x ≤ 2147483647) ∨ (B = 64 ∧ -9223372036854775808 ≤ x ∧ x ≤ 9223372036854775807)
theorem cod_sgn (B : Int) (hB : B = 32 ∨ B = 64) : Cod (rSgn B) (isSgn B) sB := by
  constructor
  · intro l a r hl h
    unfold rSgn at h
    split at h
    · rename_i h0
      simp only [Except.ok.injEq, Prod.mk.injEq] at h
      obtain ⟨rfl, rfl⟩ := h
      have hm : (mSig B l 0).2.2 = 0 := by unfold mSig; rw [if_pos h0]
      have e1 : (mSig B l 0).1 = (rS B l).1 := by unfold mSig; rw [if_pos h0]
      have e2 : (mSig B l 0).2.1 = l.drop (rS B l).2.1.toNat := by unfold mSig; rw [if_pos h0]
      obtain ⟨_, q2, _, k, q3, q4, q5⟩ := mSig_ok B hB l 0 hl hm
      rw [e1] at q2 q3
      rw [← e2, q5]
      refine ⟨?_, List.drop_suffix _ _, by rw [List.length_drop]; omega⟩
      rcases hB with rfl | rfl
      · exact Or.inl ⟨rfl, rS32_range l hl⟩
      · exact Or.inr ⟨rfl, q2⟩
    · cases h
  · intro a more ha
    have h : mSig B (sB a ++ more) 0 = (a, more, 0) := by
      rcases ha with ⟨rfl, h1, h2⟩ | ⟨rfl, h1, h2⟩
      · exact mSig_back 32 a 4 (Or.inl ⟨rfl, rfl, h1, by omega⟩) more
      · exact mSig_back 64 a 9 (Or.inr ⟨rfl, rfl, h1, by omega⟩) more
    unfold rSgn
    unfold mSig at h
    split at h
    · rename_i h0
      simp only [Prod.mk.injEq] at h
      rw [if_pos h0, h.1, h.2.1]
    · rename_i h0
      simp only [Prod.mk.injEq] at h
      have := h.2.2
      rw [fstE_zero] at this
      exact absurd this h0
theorem rPiece_ok {n : Int} {l a r : List Int} (hn : 0 ≤ n) (h : rPiece n l = .ok (a, r)) : l = a ++ r ∧ (a.length : Int) = n := by
  unfold rPiece at h
  split at h
  · rename_i h0
    simp only [Except.ok.injEq, Prod.mk.injEq] at h
    obtain ⟨rfl, rfl⟩ := h
    exact ⟨(List.take_append_drop _ _).symm, by rw [List.length_take]; omega⟩
  · cases h
theorem rPiece_back (a more : List Int) : rPiece (a.length : Int) (a ++ more) = .ok (a, more) := by
  unfold rPiece
  rw [if_pos (by rw [List.length_append]; omega)]
  simp
theorem cod_count (most : Int) (hm : most ≤ 4294967295) : Cod (rCount most) (fun n => 0 ≤ n ∧ n ≤ most) fun n => uB n.toNat := by
  constructor
  · intro l a r hl h
    obtain ⟨n, r1, h1, h2⟩ := nxt_ok h
    obtain ⟨_, r2, h3, h4⟩ := nxt_ok h2
    obtain ⟨h5, rfl⟩ := need_ok h3
    simp only [ret, Except.ok.injEq, Prod.mk.injEq] at h4
    obtain ⟨rfl, rfl⟩ := h4
    obtain ⟨q1, q2, q3⟩ := cod_num.ok _ _ _ hl h1
    exact ⟨⟨q1.1, of_decide_eq_true h5⟩, q2, q3⟩
  · intro a more ha
    unfold rCount
    rw [nxt_of (cod_num.back a more ⟨ha.1, by omega⟩), nxt_of (need_of (decide_eq_true ha.2) _ _)]
    rfl
theorem count_back (most : Int) (hm : most ≤ 4294967295) (n : Nat) (h : (n : Int) ≤ most) (more : List Int) : rCount most (uB n ++ more) = .ok ((n : Int), more) := (cod_count most hm).back (n : Int) more ⟨by omega, h⟩
theorem num_back (n : Nat) (h : n ≤ 4294967295) (more : List Int) : rNum (uB n ++ more) = .ok ((n : Int), more) := cod_num.back (n : Int) more ⟨by omega, by omega⟩
/-! ### Lists -/
/-- So many, one behind the other. -/
def rTimes {α : Type} (p : Rd α) : Nat → List α → Rd (List α)
  | 0, acc => fun l => .ok (acc, l)
  | n + 1, acc => fun l => match p l with
    | .error e => .error e
    | .ok (a, r) => rTimes p n (acc ++ [a]) r
def rList {α : Type} (most : Int) (p : Rd α) : Rd (List α) := nxt (rCount most) fun n => rTimes p n.toNat []
def tList {α : Type} (t : α → List Int) (L : List α) : List Int := uB L.length ++ L.flatMap t
theorem rTimes_ok {α : Type} {p : Rd α} {G : α → Prop} {t : α → List Int} (C : Cod p G t) : ∀ (n : Nat) (acc : List α) (l : List Int) (L : List α) (r : List Int), Bts l → rTimes p n acc l = .ok (L, r) → ∃ K, L = acc ++ K ∧ K.length = n ∧ (∀ a ∈ K, G a) ∧ r <:+ l ∧ (K.flatMap t).length + r.length ≤ l.length
  | 0, acc, l, L, r, _, h => by
    simp only [rTimes, Except.ok.injEq, Prod.mk.injEq] at h
    obtain ⟨rfl, rfl⟩ := h
    exact ⟨[], by simp, rfl, by simp, List.suffix_refl _, by simp⟩
  | n + 1, acc, l, L, r, hl, h => by
    rw [rTimes] at h
    dsimp only at h
    cases hp : p l with
    | error e => rw [hp] at h; cases h
    | ok x =>
      obtain ⟨a, r1⟩ := x
      rw [hp] at h
      obtain ⟨g1, g2, g3⟩ := C.ok _ _ _ hl hp
      obtain ⟨K, q1, q2, q3, q4, q5⟩ := rTimes_ok C n _ r1 L r (hl.suf g2) h
      refine ⟨a :: K, by rw [q1]; simp, by simp [q2], ?_, q4.trans g2, ?_⟩
      · intro b hb
        rw [List.mem_cons] at hb
        rcases hb with rfl | hb
        · exact g1
        · exact q3 b hb
      · rw [List.flatMap_cons, List.length_append]
        omega
theorem rTimes_back {α : Type} {p : Rd α} {G : α → Prop} {t : α → List Int} (C : Cod p G t) : ∀ (K acc : List α) (more : List Int), (∀ a ∈ K, G a) → rTimes p K.length acc (K.flatMap t ++ more) = .ok (acc ++ K, more)
  | [], acc, more, _ => by simp [rTimes]
  | a :: K, acc, more, h => by
    rw [List.length_cons, rTimes, List.flatMap_cons, List.append_assoc]
    dsimp only
    rw [C.back a _ (h a (by simp))]
    dsimp only
    rw [rTimes_back C K (acc ++ [a]) more fun b hb => h b (by simp [hb])]
    simp
theorem cod_list {α : Type} {p : Rd α} {G : α → Prop} {t : α → List Int} (C : Cod p G t) (most : Int) (hm : most ≤ 4294967295) : Cod (rList most p) (fun L => (L.length : Int) ≤ most ∧ ∀ a ∈ L, G a) (tList t) := by
  constructor
  · intro l L r hl h
    obtain ⟨n, r1, h1, h2⟩ := nxt_ok h
    obtain ⟨g1, g2, g3⟩ := (cod_count most hm).ok _ _ _ hl h1
    obtain ⟨K, q1, q2, q3, q4, q5⟩ := rTimes_ok C _ _ _ _ _ (hl.suf g2) h2
    rw [List.nil_append] at q1
    subst q1
    refine ⟨⟨by omega, q3⟩, q4.trans g2, ?_⟩
    unfold tList
    rw [List.length_append, q2]
    omega
  · intro L more hL
    unfold rList tList
    rw [List.append_assoc, nxt_of (count_back most hm L.length hL.1 _)]
    have := rTimes_back C L [] more hL.2
    rw [List.nil_append] at this
    exact this
theorem tList_pos {α : Type} (t : α → List Int) (L : List α) : tList t L ≠ [] := by
  unfold tList
  intro h
  have := uB_pos L.length
  rw [List.append_eq_nil_iff] at h
  rw [h.1] at this
  simp at this
end Go.Proofs.Ytfmmefmpjejioaa
