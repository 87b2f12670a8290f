/-
  What the reading of a body says, over lists of bytes: plain mathematics.
-/
import Derived.Test.YtfmmefmpjejioaaGNst
import Derived.Test.YtfmmefmpjejioaaGVal
namespace Go.Proofs.Ytfmmefmpjejioaa
open Go.RowKit

/-- An instruction by its values. -/
structure V4 where
  op : Int
  A : Int
  B : Int
  xs : List Int
def InsD.val (d : InsD) : V4 := ⟨d.op, d.A, d.B, d.xs⟩
def Got.val (g : Got) : V4 := ⟨g.op, g.A, g.B, g.To⟩
def V4.chk (v : V4) : Int := chkV v.op v.A v.B v.xs.length v.xs
def V4.text (v : V4) : List Int := v.op :: besT (besV v.op) v.A v.B v.xs
/-- How far a body is gone through, by values. -/
def vRun : List V4 → List Int → Bool → Int × List Int × Bool
  | [], bs, en => (0, bs, en)
  | v :: V, bs, en => if (nStep v.chk v.op bs en).1 = 0 then vRun V (nStep v.chk v.op bs en).2.1 (nStep v.chk v.op bs en).2.2 else nStep v.chk v.op bs en
theorem val_chk (d : InsD) (h : d.xs.length = d.n) : d.val.chk = chkD d := by
  unfold V4.chk chkD
  rw [show d.val.xs.length = d.n from h]
  rfl
theorem vRun_val : ∀ (L : List InsD) (bs : List Int) (en : Bool), (∀ d ∈ L, d.xs.length = d.n) → vRun (L.map InsD.val) bs en = nRun L bs en
  | [], _, _, _ => rfl
  | d :: L, bs, en, h => by
    rw [List.map_cons, vRun, nRun, val_chk d (h d (by simp)), show d.val.op = d.op from rfl]
    split
    · exact vRun_val L _ _ fun x hx => h x (by simp [hx])
    · rfl
/-- What is read, with what stood ahead of it. -/
def appR (pre : List V4) (q : Int × List V4 × List Int) : Int × List V4 × List Int := if q.1 = 0 then (0, pre ++ q.2.1, q.2.2) else (q.1, [], [])
/-- What the reading of a body says: so many may still come. -/
def nRd : Nat → List Int → List Int → Int × List V4 × List Int
  | 0, l, _ => if (mIns l 0).e = 0 then (2, [], []) else ((mIns l 0).e, [], [])
  | f + 1, l, bs => if (mIns l 0).e = 0 then
      (if (nStep (mIns l 0).val.chk (mIns l 0).op bs false).1 = 0 then
        (if (nStep (mIns l 0).val.chk (mIns l 0).op bs false).2.2 = true then (0, [(mIns l 0).val], (mIns l 0).l)
         else appR [(mIns l 0).val] (nRd f (mIns l 0).l (nStep (mIns l 0).val.chk (mIns l 0).op bs false).2.1))
       else ((nStep (mIns l 0).val.chk (mIns l 0).op bs false).1, [], []))
     else ((mIns l 0).e, [], [])
theorem appR_app (p : List V4) (v : V4) (q : Int × List V4 × List Int) : appR p (appR [v] q) = appR (p ++ [v]) q := by
  unfold appR
  by_cases h : q.1 = 0
  · rw [if_pos h, if_pos h, if_pos rfl]
    simp
  · rw [if_neg h, if_neg h, if_neg h]
theorem appR_err (p : List V4) (e : Int) (h : e ≠ 0) : appR p (e, [], []) = (e, [], []) := by
  unfold appR
  rw [if_neg h]
theorem appR_nil (q : Int × List V4 × List Int) (h : q.1 = 0 ∨ q.2 = ([], [])) : appR [] q = q := by
  obtain ⟨a, b, c⟩ := q
  unfold appR
  rcases h with h | h
  · simp only at h
    subst h
    rfl
  · by_cases h0 : a = 0
    · subst h0
      rfl
    · rw [if_neg h0]
      simp only [Prod.mk.injEq] at h ⊢
      exact ⟨trivial, h.1.symm, h.2.symm⟩
theorem nRd_form (f : Nat) (l bs : List Int) : (nRd f l bs).1 = 0 ∨ (nRd f l bs).2 = ([], []) := by
  cases f with
  | zero => rw [nRd]; split <;> exact Or.inr rfl
  | succ f =>
    rw [nRd]
    split
    · split
      · split
        · exact Or.inl rfl
        · unfold appR
          split
          · exact Or.inl rfl
          · exact Or.inr rfl
      · exact Or.inr rfl
    · exact Or.inr rfl
/-- What is left is an end of what there was. -/
theorem mNext_suf (l : List Int) (a : Int) : (mNext l a).2.1 <:+ l := by
  cases l with
  | nil => exact List.suffix_refl _
  | cons b r => exact List.suffix_cons b r
theorem mNum_suf (l : List Int) (a : Int) : (mNum l a).2.1 <:+ l := by
  unfold mNum
  split
  · exact List.drop_suffix _ _
  · exact List.suffix_refl _
theorem mSig_suf (B : Int) (l : List Int) (a : Int) : (mSig B l a).2.1 <:+ l := by
  unfold mSig
  split
  · exact List.drop_suffix _ _
  · exact List.suffix_refl _
theorem mNumsF_suf : ∀ (n : Nat) (l : List Int) (a : Int), (mNumsF n l a).2.1 <:+ l
  | 0, l, a => List.suffix_refl _
  | n + 1, l, a => by
    rw [mNumsF]
    exact (mNumsF_suf n _ _).trans (mNum_suf l a)
theorem mNums_suf (l : List Int) (a : Int) : (mNums l a).2.1 <:+ l := by
  unfold mNums
  split
  · exact mNum_suf l a
  · exact (mNumsF_suf _ _ _).trans (mNum_suf l a)
theorem mIns_suf (l : List Int) (a : Int) : (mIns l a).l <:+ l := by
  unfold mIns
  refine List.IsSuffix.trans ?_ (mNext_suf l a)
  generalize (mNext l a).2.1 = l1
  generalize (mNext l a).2.2 = a1
  unfold mBes
  split; · exact List.suffix_refl _
  split; · exact List.suffix_refl _
  split; · exact mNext_suf l1 a1
  split; · exact mNum_suf l1 a1
  split; · exact (mNum_suf _ _).trans (mNums_suf l1 a1)
  split; · exact (mNext_suf _ _).trans (mNum_suf l1 a1)
  split; · exact (mNum_suf _ _).trans (mNum_suf l1 a1)
  split; · exact mNext_suf l1 a1
  split; · exact mSig_suf 32 l1 a1
  exact mSig_suf 64 l1 a1
theorem suf_drop {a b : List Int} (h : a <:+ b) : a = b.drop (b.length - a.length) := List.suffix_iff_eq_drop.1 h
theorem vchk_fit (v : V4) (h : v.chk = 0) : v.xs.length ≤ 16 ∧ fitC (besV v.op) v.A v.B v.xs := by
  have hrg := besV_range v.op
  unfold V4.chk chkV at h
  split at h
  · omega
  · split at h
    · omega
    · split at h
      · rename_i h1 h2 h3
        exact ⟨by omega, fitB_fit (besV v.op) v.A v.B v.xs.length v.xs (by omega) hrg.2 rfl (by omega) h3⟩
      · omega
theorem step_chk {c op : Int} {bs : List Int} {en : Bool} (h : (nStep c op bs en).1 = 0) : c = 0 ∧ en = false := by
  unfold nStep at h
  by_cases hc : c = 0
  · refine ⟨hc, ?_⟩
    rw [if_neg (by simpa using hc)] at h
    cases en with
    | false => rfl
    | true => rw [if_pos rfl] at h; exact absurd h (by simp)
  · rw [if_pos hc] at h
    exact absurd h hc
theorem vRun_ended : ∀ (V : List V4) (bs : List Int), (vRun V bs true).1 = 0 → V = []
  | [], _, _ => rfl
  | v :: V, bs, h => by
    rw [vRun] at h
    by_cases h0 : (nStep v.chk v.op bs true).1 = 0
    · exact absurd (step_chk h0).2 (by decide)
    · rw [if_neg h0] at h
      exact absurd h h0
/-- A range that the machine's numbers have. -/
def V4.rng (v : V4) : Prop := -9223372036854775808 ≤ v.A ∧ v.A ≤ 9223372036854775807
/-- What is written is read back. -/
theorem nRd_back : ∀ (V : List V4) (f : Nat) (bs more : List Int), V.length ≤ f → (∀ v ∈ V, v.rng) → (vRun V bs false).1 = 0 → (vRun V bs false).2.2 = true → nRd f (V.flatMap V4.text ++ more) bs = (0, V, more)
  | [], _, _, _, _, _, _, h => absurd h (by simp [vRun])
  | v :: V, 0, _, _, hf, _, _, _ => absurd hf (by simp)
  | v :: V, f + 1, bs, more, hf, hr, h1, h2 => by
    rw [vRun] at h1 h2
    by_cases h0 : (nStep v.chk v.op bs false).1 = 0
    · rw [if_pos h0] at h1 h2
      have hc := (step_chk h0).1
      obtain ⟨_, hfit⟩ := vchk_fit v hc
      have hm := mIns_back v.op v.A v.B v.xs hfit (hr v (by simp)) (V.flatMap V4.text ++ more)
      have e0 : (v :: V).flatMap V4.text ++ more = (v.op :: besT (besV v.op) v.A v.B v.xs) ++ (V.flatMap V4.text ++ more) := by
        rw [List.flatMap_cons, List.append_assoc]
        rfl
      rw [e0, nRd, hm, show Got.val ⟨v.op, v.A, v.B, v.xs, V.flatMap V4.text ++ more, 0⟩ = v from rfl]
      dsimp only
      rw [if_pos rfl, if_pos h0]
      by_cases he : (nStep v.chk v.op bs false).2.2 = true
      · rw [he] at h1
        have := vRun_ended V _ h1
        subst this
        rw [if_pos he]
        rfl
      · rw [if_neg he]
        rw [Bool.not_eq_true] at he
        rw [he] at h1 h2
        rw [nRd_back V f _ more (by simpa using hf) (fun x hx => hr x (by simp [hx])) h1 h2]
        rfl
    · rw [if_neg h0] at h1
      exact absurd h1 h0
/-- What is read is well, and no shorter than what is written. -/
theorem nRd_ok : ∀ (f : Nat) (l bs : List Int) (V : List V4) (r : List Int), (∀ b ∈ l, 0 ≤ b ∧ b < 256) → nRd f l bs = (0, V, r) → V.length ≤ f ∧ V ≠ [] ∧ (∀ v ∈ V, v.rng ∧ 0 ≤ v.op ∧ v.op ≤ 255) ∧ (vRun V bs false).1 = 0 ∧ (vRun V bs false).2.2 = true ∧ r <:+ l ∧ (V.flatMap V4.text).length + r.length ≤ l.length
  | 0, l, bs, V, r, _, h => by
    rw [nRd] at h
    split at h
    · simp at h
    · rename_i h0
      simp at h
      exact absurd h.1 h0
  | f + 1, l, bs, V, r, hl, h => by
    rw [nRd] at h
    split at h
    · rename_i h0
      obtain ⟨ho, _, hA, hlen⟩ := mIns_ok l hl h0
      have hsuf := mIns_suf l 0
      split at h
      · rename_i h1
        split at h
        · rename_i h2
          simp only [Prod.mk.injEq, true_and] at h
          obtain ⟨rfl, rfl⟩ := h
          refine ⟨by simp, by simp, ?_, ?_, ?_, hsuf, ?_⟩
          · intro v hv
            rw [List.mem_singleton] at hv
            subst hv
            exact ⟨hA, ho⟩
          · rw [vRun, if_pos (show (nStep (mIns l 0).val.chk (mIns l 0).val.op bs false).1 = 0 from h1)]
            rfl
          · rw [vRun, if_pos (show (nStep (mIns l 0).val.chk (mIns l 0).val.op bs false).1 = 0 from h1)]
            exact h2
          · simp only [List.flatMap_cons, List.flatMap_nil, List.append_nil, V4.text, List.length_cons]
            simp only [Got.val]
            omega
        · rename_i h2
          rw [Bool.not_eq_true] at h2
          unfold appR at h
          split at h
          · rename_i h3
            simp only [Prod.mk.injEq, true_and] at h
            obtain ⟨rfl, rfl⟩ := h
            have hl2 : ∀ b ∈ (mIns l 0).l, 0 ≤ b ∧ b < 256 := fun b hb => hl b (hsuf.subset hb)
            have eq : nRd f (mIns l 0).l (nStep (mIns l 0).val.chk (mIns l 0).op bs false).2.1 = (0, (nRd f (mIns l 0).l (nStep (mIns l 0).val.chk (mIns l 0).op bs false).2.1).2.1, (nRd f (mIns l 0).l (nStep (mIns l 0).val.chk (mIns l 0).op bs false).2.1).2.2) := Prod.ext h3 rfl
            obtain ⟨q1, q2, q3, q4, q5, q6, q7⟩ := nRd_ok f (mIns l 0).l _ _ _ hl2 eq
            refine ⟨by simp; omega, by simp, ?_, ?_, ?_, q6.trans hsuf, ?_⟩
            · intro v hv
              rw [List.singleton_append, List.mem_cons] at hv
              rcases hv with rfl | hv
              · exact ⟨hA, ho⟩
              · exact q3 v hv
            · rw [List.singleton_append, vRun, if_pos (show (nStep (mIns l 0).val.chk (mIns l 0).val.op bs false).1 = 0 from h1)]
              rw [show (nStep (mIns l 0).val.chk (mIns l 0).val.op bs false).2.2 = false from h2]
              exact q4
            · rw [List.singleton_append, vRun, if_pos (show (nStep (mIns l 0).val.chk (mIns l 0).val.op bs false).1 = 0 from h1)]
              rw [show (nStep (mIns l 0).val.chk (mIns l 0).val.op bs false).2.2 = false from h2]
              exact q5
            · rw [List.singleton_append, List.flatMap_cons, List.length_append]
              have e1 : (mIns l 0).val.text.length = (besT (besV (mIns l 0).op) (mIns l 0).A (mIns l 0).B (mIns l 0).To).length + 1 := rfl
              rw [e1]
              omega
          · rename_i h3
            simp at h
            exact absurd h.1 h3
      · rename_i h1
        simp at h
        exact absurd h.1 h1
    · rename_i h0
      simp at h
      exact absurd h.1 h0
/-- A beginning of what is written ends too early. -/
theorem nRd_cut : ∀ (V : List V4) (f : Nat) (bs : List Int) (r : Nat), V.length ≤ f → (∀ v ∈ V, v.rng) → (vRun V bs false).1 = 0 → r < (V.flatMap V4.text).length → nRd f ((V.flatMap V4.text).take r) bs = (3, [], [])
  | [], _, _, r, _, _, _, h => absurd h (by simp)
  | v :: V, 0, _, _, hf, _, _, _ => absurd hf (by simp)
  | v :: V, f + 1, bs, r, hf, hr, h1, h2 => by
    rw [vRun] at h1
    by_cases h0 : (nStep v.chk v.op bs false).1 = 0
    · rw [if_pos h0] at h1
      have hc := (step_chk h0).1
      obtain ⟨_, hfit⟩ := vchk_fit v hc
      have e0 : (v :: V).flatMap V4.text = (v.op :: besT (besV v.op) v.A v.B v.xs) ++ V.flatMap V4.text := by
        rw [List.flatMap_cons]
        rfl
      rw [e0] at h2 ⊢
      by_cases hlt : r < (v.op :: besT (besV v.op) v.A v.B v.xs).length
      · have hm := mIns_cut v.op v.A v.B v.xs hfit (hr v (by simp)) r hlt
        rw [List.take_append_of_le_length (by omega), nRd, hm, if_neg (by decide)]
      · have hm := mIns_back v.op v.A v.B v.xs hfit (hr v (by simp)) ((V.flatMap V4.text).take (r - (v.op :: besT (besV v.op) v.A v.B v.xs).length))
        rw [List.length_append] at h2
        rw [List.take_append, List.take_of_length_le (by omega), nRd, hm, show ∀ l, Got.val ⟨v.op, v.A, v.B, v.xs, l, 0⟩ = v from fun _ => rfl]
        dsimp only
        rw [if_pos rfl, if_pos h0]
        by_cases he : (nStep v.chk v.op bs false).2.2 = true
        · rw [he] at h1
          have := vRun_ended V _ h1
          subst this
          simp at h2 hlt
          omega
        · rw [if_neg he]
          rw [Bool.not_eq_true] at he
          rw [he] at h1
          rw [nRd_cut V f _ _ (by simpa using hf) (fun x hx => hr x (by simp [hx])) h1 (by omega)]
          rfl
    · rw [if_neg h0] at h1
      exact absurd h1 h0

end Go.Proofs.Ytfmmefmpjejioaa
