/-
  What belongs together lies within one another, or apart: plain mathematics of a match.
-/
import Derived.Test.YtgdleahhkaolbaaDoorNest5
namespace Go.Proofs.YtgdleahhkaolbaaDoor

/-- What opens a block. -/
def isO (x : Int) : Prop := x = 2 ∨ x = 3 ∨ x = 4
/-- An open block: where it was opened, and by what. -/
def OpK (ops : Nat → Int) (k : Nat) (S : List Int) (x : Nat × Int) : Prop :=
  isO (ops x.1) ∧ x.1 < k ∧ ((x.2 = 5 ∧ ops x.1 = 4 ∧ ∃ h : Nat, S.getD x.1 0 = (h : Int) ∧ x.1 < h ∧ h < k ∧ ops h = 5 ∧ S.getD h 0 = (x.1 : Int)) ∨ (x.2 = ops x.1 ∧ S.getD x.1 0 = -1))
/-- A block that is closed. -/
def ClK (ops : Nat → Int) (k : Nat) (E S : List Int) (p q : Nat) : Prop :=
  E.getD p 0 = (q : Int) ∧ p < q ∧ q < k ∧ ops q = 11 ∧ E.getD q 0 = (p : Int) ∧ (S.getD p 0 = -1 ∨ ∃ h : Nat, S.getD p 0 = (h : Int) ∧ p < h ∧ h < q ∧ ops p = 4 ∧ ops h = 5 ∧ S.getD h 0 = (p : Int) ∧ E.getD h 0 = (q : Int))
structure Inv (ops : Nat → Int) (n k : Nat) (st : List (Nat × Int)) (E S : List Int) : Prop where
  lenE : E.length = n
  lenS : S.length = n
  kn : k ≤ n
  sorted : (st.map Prod.fst).Pairwise (· < ·)
  kind : ∀ x ∈ st, OpK ops k S x
  closed : ∀ p, p < k → isO (ops p) → p ∉ st.map Prod.fst → ∃ q, ClK ops k E S p q
  nest : ∀ p1 p2, p1 < p2 → p2 < k → isO (ops p1) → isO (ops p2) → p1 ∉ st.map Prod.fst → (p2 ∈ st.map Prod.fst → E.getD p1 0 < (p2 : Int)) ∧ (p2 ∉ st.map Prod.fst → E.getD p2 0 < E.getD p1 0 ∨ E.getD p1 0 < (p2 : Int))
  fresh : ∀ p, k ≤ p → p < n → S.getD p 0 = -1
theorem OpK.mono {ops : Nat → Int} {k : Nat} {S : List Int} {x : Nat × Int} (h : OpK ops k S x) : OpK ops (k + 1) S x := by
  obtain ⟨h1, h2, h3⟩ := h
  refine ⟨h1, by omega, ?_⟩
  rcases h3 with ⟨a, b, hh, c, d, e, f⟩ | h
  · exact Or.inl ⟨a, b, hh, c, d, by omega, f⟩
  · exact Or.inr h
theorem ClK.mono {ops : Nat → Int} {k : Nat} {E S : List Int} {p q : Nat} (h : ClK ops k E S p q) : ClK ops (k + 1) E S p q := by
  obtain ⟨a, b, c, d⟩ := h
  exact ⟨a, b, by omega, d⟩
section
variable {ops : Nat → Int} {n k : Nat} {st ini : List (Nat × Int)} {E S : List Int}
theorem Inv.push (h : Inv ops n k st E S) (hk : k < n) (ho : isO (ops k)) : Inv ops n (k + 1) (st ++ [(k, ops k)]) E S := by
  have hmem : ∀ p, p ∈ (st ++ [(k, ops k)]).map Prod.fst ↔ (p ∈ st.map Prod.fst ∨ p = k) := by
    intro p
    rw [List.map_append, List.mem_append]
    simp
  refine ⟨h.lenE, h.lenS, by omega, ?_, ?_, ?_, ?_, fun p hp hn => h.fresh p (by omega) hn⟩
  · rw [List.map_append, List.pairwise_append]
    refine ⟨h.sorted, by simp, fun a ha b hb => ?_⟩
    simp at hb
    subst hb
    obtain ⟨x, hx, rfl⟩ := List.mem_map.1 ha
    exact (h.kind x hx).2.1
  · intro x hx
    rcases List.mem_append.1 hx with hx | hx
    · exact (h.kind x hx).mono
    · simp at hx
      subst hx
      exact ⟨ho, by simp, Or.inr ⟨rfl, h.fresh k (Nat.le_refl _) hk⟩⟩
  · intro p hp hop hno
    rw [hmem] at hno
    obtain ⟨q, hq⟩ := h.closed p (by omega) hop (fun e => hno (Or.inl e))
    exact ⟨q, hq.mono⟩
  · intro p1 p2 h12 h2 o1 o2 hno
    rw [hmem] at hno
    have hn1 : p1 ∉ st.map Prod.fst := fun e => hno (Or.inl e)
    rw [hmem]
    by_cases hpk : p2 = k
    · subst hpk
      obtain ⟨q, hq⟩ := h.closed p1 h12 o1 hn1
      refine ⟨fun _ => by rw [hq.1]; have := hq.2.2.1; omega, fun hx => absurd (Or.inr rfl) hx⟩
    · obtain ⟨a, b⟩ := h.nest p1 p2 h12 (by omega) o1 o2 hn1
      refine ⟨fun hx => ?_, fun hx => b fun e => hx (Or.inl e)⟩
      rcases hx with hx | hx
      · exact a hx
      · exact absurd hx hpk
theorem Inv.skip (h : Inv ops n k st E S) (hk : k < n) (ho : ¬ isO (ops k)) : Inv ops n (k + 1) st E S := by
  refine ⟨h.lenE, h.lenS, by omega, h.sorted, fun x hx => (h.kind x hx).mono, ?_, ?_, fun p hp hn => h.fresh p (by omega) hn⟩
  · intro p hp hop hno
    have : p ≠ k := fun e => ho (e ▸ hop)
    obtain ⟨q, hq⟩ := h.closed p (by omega) hop hno
    exact ⟨q, hq.mono⟩
  · intro p1 p2 h12 h2 o1 o2 hno
    have : p2 ≠ k := fun e => ho (e ▸ o2)
    exact h.nest p1 p2 h12 (by omega) o1 o2 hno
theorem last_gt {ini : List (Nat × Int)} {f : Nat} {b : Int} (hs : ((ini ++ [(f, b)]).map Prod.fst).Pairwise (· < ·)) : ∀ p ∈ ini.map Prod.fst, p < f := by
  rw [List.map_append, List.pairwise_append] at hs
  intro p hp
  exact hs.2.2 p hp f (by simp)
theorem Inv.turn {f : Nat} (h : Inv ops n k (ini ++ [(f, 4)]) E S) (hk : k < n) (ho : ops k = 5) : Inv ops n (k + 1) (ini ++ [(f, 5)]) E ((S.set k (f : Int)).set f (k : Int)) := by
  have hno : ¬ isO (ops k) := by rw [ho]; unfold isO; omega
  have hF := h.kind (f, 4) (by simp)
  obtain ⟨hfo, hfk, hfx⟩ := hF
  have hf4 : ops f = 4 ∧ S.getD f 0 = -1 := by
    rcases hfx with ⟨a, _⟩ | ⟨a, b⟩
    · exfalso; simp at a
    · exact ⟨a.symm, b⟩
  have hfn : f < n := by simp only at hfk; omega
  have hsame : (ini ++ [(f, (5 : Int))]).map Prod.fst = (ini ++ [(f, (4 : Int))]).map Prod.fst := by simp
  have gS : ∀ p, ((S.set k (f : Int)).set f (k : Int)).getD p 0 = if p = f then (k : Int) else if p = k then (f : Int) else S.getD p 0 := by
    intro p
    rw [getD_set, List.length_set, getD_set, h.lenS]
    by_cases h1 : p = f
    · subst h1
      rw [if_pos ⟨rfl, hfn⟩, if_pos rfl]
    · rw [if_neg (fun e => h1 e.1.symm), if_neg h1]
      by_cases h2 : p = k
      · subst h2
        rw [if_pos ⟨rfl, hk⟩, if_pos rfl]
      · rw [if_neg (fun e => h2 e.1.symm), if_neg h2]
  have hlg := last_gt h.sorted
  have keep : ∀ p, p ≠ f → p ≠ k → ((S.set k (f : Int)).set f (k : Int)).getD p 0 = S.getD p 0 := by
    intro p h1 h2
    rw [gS, if_neg h1, if_neg h2]
  have keep5 : ∀ p, ops p = 5 → p < k → ((S.set k (f : Int)).set f (k : Int)).getD p 0 = S.getD p 0 := by
    intro p h1 h2
    refine keep p (fun e => ?_) (by omega)
    subst e
    rw [hf4.1] at h1
    cases h1
  simp only at hfk
  refine ⟨h.lenE, by rw [List.length_set, List.length_set]; exact h.lenS, by omega, by rw [hsame]; exact h.sorted, ?_, ?_, ?_, ?_⟩
  · intro x hx
    rcases List.mem_append.1 hx with hx | hx
    · have hxk := h.kind x (by simp [hx])
      have hxf : x.1 < f := hlg x.1 (List.mem_map.2 ⟨x, hx, rfl⟩)
      obtain ⟨a, b, c⟩ := hxk
      refine ⟨a, by omega, ?_⟩
      rw [keep x.1 (by omega) (by omega)]
      rcases c with ⟨c1, c2, hh, c3, c4, c5, c6, c7⟩ | c
      · exact Or.inl ⟨c1, c2, hh, c3, c4, by omega, c6, by rw [keep5 hh c6 c5]; exact c7⟩
      · exact Or.inr c
    · simp at hx
      subst hx
      refine ⟨hfo, by simp only; omega, Or.inl ⟨rfl, hf4.1, k, ?_, hfk, by omega, ho, ?_⟩⟩
      · rw [gS, if_pos rfl]
      · simp only
        rw [gS, if_neg (by omega), if_pos rfl]
  · intro p hp hop hno2
    rw [hsame] at hno2
    have hpk : p ≠ k := fun e => hno (e ▸ hop)
    have hpf : p ≠ f := fun e => hno2 (by simp [e])
    obtain ⟨q, hq⟩ := h.closed p (by omega) hop hno2
    refine ⟨q, hq.1, hq.2.1, by have := hq.2.2.1; omega, hq.2.2.2.1, hq.2.2.2.2.1, ?_⟩
    rw [keep p hpf hpk]
    rcases hq.2.2.2.2.2 with c | ⟨hh, c1, c2, c3, c4, c5, c6, c7⟩
    · exact Or.inl c
    · exact Or.inr ⟨hh, c1, c2, c3, c4, c5, by rw [keep5 hh c5 (by have := hq.2.2.1; omega)]; exact c6, c7⟩
  · intro p1 p2 h12 h2 o1 o2 hno2
    rw [hsame] at hno2 ⊢
    have : p2 ≠ k := fun e => hno (e ▸ o2)
    exact h.nest p1 p2 h12 (by omega) o1 o2 hno2
  · intro p hp hpn
    rw [keep p (by omega) (by omega)]
    exact h.fresh p (by omega) hpn
theorem Inv.pop {f : Nat} {b : Int} (h : Inv ops n k (ini ++ [(f, b)]) E S) (hk : k < n) (ho : ops k = 11) : Inv ops n (k + 1) ini (tieE E S f k) S := by
  have hno : ¬ isO (ops k) := by rw [ho]; unfold isO; omega
  obtain ⟨hfo, hfk, hfx⟩ := h.kind (f, b) (by simp)
  simp only at hfo hfk hfx
  have hmem : ∀ p, p ∈ (ini ++ [(f, b)]).map Prod.fst ↔ (p ∈ ini.map Prod.fst ∨ p = f) := by
    intro p
    rw [List.map_append, List.mem_append]
    simp
  have hlg := last_gt h.sorted
  -- what the ends hold
  obtain ⟨H, hH, gE⟩ : ∃ H : Option Nat, (S.getD f 0 = -1 ∧ H = none ∨ ∃ hh : Nat, H = some hh ∧ S.getD f 0 = (hh : Int) ∧ f < hh ∧ hh < k ∧ ops f = 4 ∧ ops hh = 5 ∧ S.getD hh 0 = (f : Int)) ∧ ∀ p, p < n → (tieE E S f k).getD p 0 = if some p = H then (k : Int) else if p = k then (f : Int) else if p = f then (k : Int) else E.getD p 0 := by
    have base : ∀ p, ((E.set f (k : Int)).set k (f : Int)).getD p 0 = if p = k then (f : Int) else if p = f then (k : Int) else E.getD p 0 := by
      intro p
      rw [getD_set, List.length_set, getD_set, h.lenE]
      by_cases h1 : p = k
      · subst h1
        rw [if_pos ⟨rfl, hk⟩, if_pos rfl]
      · rw [if_neg (fun e => h1 e.1.symm), if_neg h1]
        by_cases h2 : p = f
        · subst h2
          rw [if_pos ⟨rfl, by omega⟩, if_pos rfl]
        · rw [if_neg (fun e => h2 e.1.symm), if_neg h2]
    rcases hfx with ⟨_, c2, hh, c3, c4, c5, c6, c7⟩ | ⟨_, c⟩
    · refine ⟨some hh, Or.inr ⟨hh, rfl, c3, c4, c5, c2, c6, c7⟩, fun p hp => ?_⟩
      unfold tieE
      rw [if_neg (by rw [c3]; omega), c3, Int.toNat_natCast, getD_set, List.length_set, List.length_set, h.lenE]
      by_cases h1 : p = hh
      · subst h1
        rw [if_pos ⟨rfl, hp⟩, if_pos rfl]
      · rw [if_neg (fun e => h1 e.1.symm), if_neg (fun e => h1 (by simpa using e)), base]
    · refine ⟨none, Or.inl ⟨c, rfl⟩, fun p _ => ?_⟩
      unfold tieE
      rw [if_pos c, base]
      simp
  have Hno : ∀ p, some p = H → ops p = 5 ∧ S.getD p 0 = (f : Int) ∧ p < k := by
    intro p hp
    rcases hH with ⟨_, e⟩ | ⟨hh, e, _, _, c, _, d, g⟩
    · rw [e] at hp; cases hp
    · rw [e] at hp
      cases hp
      exact ⟨d, g, c⟩
  have keep : ∀ p, p < n → p ≠ k → p ≠ f → some p ≠ H → (tieE E S f k).getD p 0 = E.getD p 0 := by
    intro p hp h1 h2 h3
    rw [gE p hp, if_neg h3, if_neg h1, if_neg h2]
  have keepO : ∀ p, p < k → isO (ops p) → p ≠ f → (tieE E S f k).getD p 0 = E.getD p 0 := by
    intro p hp hop hpf
    refine keep p (by omega) (by omega) hpf fun e => ?_
    have := (Hno p e).1
    rw [this] at hop
    unfold isO at hop
    omega
  have hEf : (tieE E S f k).getD f 0 = (k : Int) := by
    have hfH : some f ≠ H := fun e => by
      have := (Hno f e).1
      rw [this] at hfo
      unfold isO at hfo
      omega
    rw [gE f (by omega), if_neg hfH, if_neg (by omega), if_pos rfl]
  have hEk : (tieE E S f k).getD k 0 = (f : Int) := by
    have hkH : some k ≠ H := fun e => by
      have := (Hno k e).2.2
      omega
    rw [gE k hk, if_neg hkH, if_pos rfl]
  refine ⟨?_, h.lenS, by omega, ?_, fun x hx => (h.kind x (by simp [hx])).mono, ?_, ?_, fun p hp hn => h.fresh p (by omega) hn⟩
  · unfold tieE
    split
    · rw [List.length_set, List.length_set]; exact h.lenE
    · rw [List.length_set, List.length_set, List.length_set]; exact h.lenE
  · have := h.sorted
    rw [List.map_append, List.pairwise_append] at this
    exact this.1
  · intro p hp hop hno2
    have hpk : p ≠ k := fun e => hno (e ▸ hop)
    by_cases hpf : p = f
    · subst hpf
      refine ⟨k, hEf, hfk, by omega, ho, hEk, ?_⟩
      rcases hH with ⟨c, _⟩ | ⟨hh, e, c1, c2, c3, c4, c5, c6⟩
      · exact Or.inl c
      · refine Or.inr ⟨hh, c1, c2, c3, c4, c5, c6, ?_⟩
        rw [gE hh (by omega), if_pos e.symm]
    · obtain ⟨q, q1, q2, q3, q4, q5, q6⟩ := h.closed p (by omega) hop (fun e => by rw [hmem] at e; rcases e with e | e; exact hno2 e; exact hpf e)
      refine ⟨q, by rw [keepO p (by omega) hop hpf]; exact q1, q2, by omega, q4, ?_, ?_⟩
      · rw [keep q (by omega) (by omega) (fun e => by subst e; rw [q4] at hfo; unfold isO at hfo; omega) (fun e => by have := (Hno q e).1; omega)]
        exact q5
      · rcases q6 with c | ⟨hh, c1, c2, c3, c4, c5, c6, c7⟩
        · exact Or.inl c
        · refine Or.inr ⟨hh, c1, c2, c3, c4, c5, c6, ?_⟩
          rw [keep hh (by omega) (by omega) (fun e => by subst e; rw [c5] at hfo; unfold isO at hfo; omega) (fun e => by have := (Hno hh e).2.1; rw [c6] at this; omega)]
          exact c7
  · intro p1 p2 h12 h2 o1 o2 hno2
    have hp2k : p2 ≠ k := fun e => hno (e ▸ o2)
    by_cases hp1 : p1 = f
    · subst hp1
      have hp2n : p2 ∉ (ini ++ [(p1, b)]).map Prod.fst := fun e => by
        rw [hmem] at e
        rcases e with e | e
        · exact Nat.lt_irrefl _ (Nat.lt_trans h12 (hlg p2 e))
        · rw [e] at h12; exact Nat.lt_irrefl _ h12
      obtain ⟨q, q1, q2, q3, _⟩ := h.closed p2 (Nat.lt_of_le_of_ne (Nat.le_of_lt_succ h2) hp2k) o2 hp2n
      refine ⟨fun e => absurd ((hmem p2).2 (Or.inl e)) hp2n, fun _ => Or.inl ?_⟩
      rw [keepO p2 (Nat.lt_of_le_of_ne (Nat.le_of_lt_succ h2) hp2k) o2 (fun e => by rw [e] at h12; exact Nat.lt_irrefl _ h12), hEf, q1]
      exact Int.ofNat_lt.2 q3
    · have hp1n : p1 ∉ (ini ++ [(f, b)]).map Prod.fst := fun e => by
        rw [hmem] at e
        rcases e with e | e
        · exact hno2 e
        · exact hp1 e
      obtain ⟨a, c⟩ := h.nest p1 p2 h12 (by omega) o1 o2 hp1n
      rw [keepO p1 (by omega) o1 hp1]
      refine ⟨fun e => a ((hmem p2).2 (Or.inl e)), fun e => ?_⟩
      by_cases hp2 : p2 = f
      · exact Or.inr (a ((hmem p2).2 (Or.inr hp2)))
      · rw [keepO p2 (by omega) o2 hp2]
        exact c fun e2 => by
          rw [hmem] at e2
          rcases e2 with e2 | e2
          · exact e e2
          · exact hp2 e2
end
end Go.Proofs.YtgdleahhkaolbaaDoor
