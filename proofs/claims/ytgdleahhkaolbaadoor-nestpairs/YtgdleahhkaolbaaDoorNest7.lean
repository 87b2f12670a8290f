/-
  What belongs together lies within one another, or apart: of a whole body.
-/
import Derived.Test.YtgdleahhkaolbaaDoorNest6
namespace Go.Proofs.YtgdleahhkaolbaaDoor

theorem nRun_ok (d : InsD) (L : List InsD) (bs : List Int) (en : Bool) (h : (nRun (d :: L) bs en).1 = 0) : (nStep (chkD d) d.op bs en).1 = 0 ∧ nRun (d :: L) bs en = nRun L (nStep (chkD d) d.op bs en).2.1 (nStep (chkD d) d.op bs en).2.2 := by
  by_cases h0 : (nStep (chkD d) d.op bs en).1 = 0
  · exact ⟨h0, by rw [nRun, if_pos h0]⟩
  · rw [nRun, if_neg h0] at h
    exact absurd h h0
theorem run_inv (ops : Nat → Int) (n : Nat) : ∀ (L : List InsD) (k : Nat) (st : List (Nat × Int)) (E S : List Int) (en : Bool), Inv ops n k st E S → (en = true → st = []) → (∀ i (h : i < L.length), ops (k + i) = (L[i]).op) → k + L.length = n → (nRun L (st.map Prod.snd) en).1 = 0 →
    ∃ st' : List (Nat × Int), (nRun L (st.map Prod.snd) en).2.1 = st'.map Prod.snd ∧ (mRun k L (st.map Prod.fst, E, S)).1 = st'.map Prod.fst ∧ Inv ops n n st' (mRun k L (st.map Prod.fst, E, S)).2.1 (mRun k L (st.map Prod.fst, E, S)).2.2 ∧ ((nRun L (st.map Prod.snd) en).2.2 = true → st' = [])
  | [], k, st, E, S, en, hI, hen, _, hk, _ => by
    simp at hk
    subst hk
    exact ⟨st, rfl, rfl, hI, hen⟩
  | d :: L, k, st, E, S, en, hI, hen, hops, hk, hr => by
    obtain ⟨h0, hrun⟩ := nRun_ok d L _ en hr
    rw [hrun] at hr ⊢
    obtain ⟨hc, he⟩ := nStep_ok _ _ _ _ h0
    rw [hc, he] at h0 hr ⊢
    have hkn : k < n := by simp at hk; omega
    have hop : ops k = d.op := by have := hops 0 (by simp); simpa using this
    have hops' : ∀ i (h : i < L.length), ops (k + 1 + i) = (L[i]).op := by
      intro i h
      have := hops (i + 1) (by simp; omega)
      rw [show k + (i + 1) = k + 1 + i by omega] at this
      simpa using this
    have hk' : k + 1 + L.length = n := by simp at hk; omega
    rw [mRun]
    by_cases h2 : d.op = 2 ∨ d.op = 3 ∨ d.op = 4
    · have hl : (st.map Prod.snd).length ≠ 12 := by
        intro e
        unfold nStep at h0
        rw [if_neg (by simp), if_neg (by simp), if_pos h2, if_pos e] at h0
        cases h0
      have e1 : nStep 0 d.op (st.map Prod.snd) false = (0, (st ++ [(k, ops k)]).map Prod.snd, false) := by
        unfold nStep
        rw [if_neg (by simp), if_neg (by simp), if_pos h2, if_neg hl, List.map_append, hop]
        rfl
      have e2 : mStep k d.op (st.map Prod.fst, E, S) = ((st ++ [(k, ops k)]).map Prod.fst, E, S) := by
        unfold mStep
        rw [if_pos h2, List.map_append]
        rfl
      rw [e1] at hr ⊢
      rw [e2]
      exact run_inv ops n L (k + 1) _ E S false (hI.push hkn (by rw [hop]; exact h2)) (fun h => by cases h) hops' hk' hr
    by_cases h5 : d.op = 5
    · rw [h5] at h0 hr ⊢
      obtain ⟨ini4, hb4, hn5⟩ := nStep_5 _ h0
      obtain ⟨ini, f, hst⟩ : ∃ ini f, st = ini ++ [(f, (4 : Int))] := by
        rcases List.eq_nil_or_concat st with h | ⟨i, x, h⟩
        · rw [h] at hb4; simp at hb4
        · rw [List.concat_eq_append] at h
          rw [h, List.map_append] at hb4
          have h1 := List.append_inj_right' hb4 rfl
          simp at h1
          exact ⟨i, x.1, by rw [h, ← h1]⟩
      subst hst
      have e1 : nStep 0 5 ((ini ++ [(f, (4 : Int))]).map Prod.snd) false = (0, (ini ++ [(f, (5 : Int))]).map Prod.snd, false) := by
        rw [hn5]
        rw [List.map_append] at hb4
        have h1 := List.append_inj_left' hb4 rfl
        rw [List.map_append, h1]
        rfl
      have e2 : mStep k 5 ((ini ++ [(f, (4 : Int))]).map Prod.fst, E, S) = ((ini ++ [(f, (5 : Int))]).map Prod.fst, E, (S.set k (f : Int)).set f (k : Int)) := by
        unfold mStep
        simp
      rw [e1] at hr ⊢
      rw [e2]
      exact run_inv ops n L (k + 1) _ E _ false (hI.turn hkn (by rw [hop]; exact h5)) (fun h => by cases h) hops' hk' hr
    by_cases h11 : d.op = 11
    · rw [h11] at h0 hr ⊢
      rcases List.eq_nil_or_concat st with h | ⟨ini, x, h⟩
      · subst h
        have e2 : mStep k 11 (([] : List (Nat × Int)).map Prod.fst, E, S) = (([] : List (Nat × Int)).map Prod.fst, E, S) := by
          unfold mStep
          simp
        rw [e2]
        exact run_inv ops n L (k + 1) [] E S true (hI.skip hkn (by rw [hop, h11]; unfold isO; omega)) (fun _ => rfl) hops' hk' hr
      · rw [List.concat_eq_append] at h
        obtain ⟨f, b⟩ := x
        subst h
        have e1 : nStep 0 11 ((ini ++ [(f, b)]).map Prod.snd) false = (0, ini.map Prod.snd, false) := by
          rw [List.map_append]
          exact nStep_11 _ _
        have e2 : mStep k 11 ((ini ++ [(f, b)]).map Prod.fst, E, S) = (ini.map Prod.fst, tieE E S f k, S) := by
          unfold mStep
          simp
        rw [e1] at hr ⊢
        rw [e2]
        exact run_inv ops n L (k + 1) ini _ S false (hI.pop hkn (by rw [hop]; exact h11)) (fun h => by cases h) hops' hk' hr
    · have e1 : nStep 0 d.op (st.map Prod.snd) false = (0, st.map Prod.snd, false) := by
        unfold nStep
        rw [if_neg (by simp), if_neg (by simp), if_neg h2, if_neg h5, if_neg h11]
      have e2 : mStep k d.op (st.map Prod.fst, E, S) = (st.map Prod.fst, E, S) := by
        unfold mStep
        rw [if_neg h2, if_neg h5, if_neg h11]
      rw [e1] at hr ⊢
      rw [e2]
      exact run_inv ops n L (k + 1) st E S false (hI.skip hkn (by rw [hop]; exact h2)) (fun h => by cases h) hops' hk' hr
/-- The instruction at a place of a body. -/
def opAt (L : List InsD) (i : Nat) : Int := (L.map InsD.op).getD i 0
theorem opAt_get (L : List InsD) (i : Nat) (h : i < L.length) : opAt L i = (L[i]).op := by
  unfold opAt
  rw [List.getD_eq_getElem?_getD, List.getElem?_map, List.getElem?_eq_getElem h]
  rfl
theorem nChk_ok (L : List InsD) (h : nChk L = 0) : L.length ≤ 200 ∧ (nRun L [] false).1 = 0 ∧ (nRun L [] false).2.2 = true ∧ 0 < L.length := by
  unfold nChk at h
  split at h
  · cases h
  · split at h
    · rename_i h1 h2
      split at h
      · rename_i h3
        refine ⟨by omega, h2, h3, ?_⟩
        cases L with
        | nil => cases h3
        | cons => simp
      · cases h
    · rename_i h1 h2
      exact absurd h h2
/-- What is matched. -/
def matchOf (L : List InsD) : List Nat × List Int × List Int := mRun 0 L ([], List.replicate L.length (-1), List.replicate L.length (-1))
theorem match_inv (L : List InsD) (h : nChk L = 0) : Inv (opAt L) L.length L.length [] (matchOf L).2.1 (matchOf L).2.2 := by
  obtain ⟨_, h1, h2, _⟩ := nChk_ok L h
  have h0 : Inv (opAt L) L.length 0 [] (List.replicate L.length (-1)) (List.replicate L.length (-1)) := by
    refine ⟨by simp, by simp, by omega, by simp, by simp, fun p hp => by omega, fun p1 p2 _ h2 => by omega, fun p _ hp => ?_⟩
    rw [List.getD_eq_getElem?_getD, List.getElem?_replicate, if_pos hp]
    rfl
  obtain ⟨st', _, _, a, b⟩ := run_inv (opAt L) L.length L 0 [] _ _ false h0 (fun h => by cases h) (fun i hi => by rw [Nat.zero_add]; exact opAt_get L i hi) (by omega) h1
  have := b h2
  subst this
  exact a

end Go.Proofs.YtgdleahhkaolbaaDoor
