/-
  Lists that a call itself makes, of whatever parts.
-/
import Derived.Test.YtfmmefmpjejioaaBR1
import Derived.Test.YtfmmefmpjejioaaOpenM
namespace Go.Proofs.Ytfmmefmpjejioaa
open Go.RowKit

/-- What turns no block of these types. -/
structure Kp (S : TypeId → Bool) (w w' : World) : Prop where
  size : w.heap.size ≤ w'.heap.size
  blk : ∀ (j : Nat) (cur : Array Value) (t : TypeId) (f : Nat × Nat), w.heap[j]? = some (.cells cur t f) → S t = true → w'.heap[j]? = w.heap[j]?
theorem Kp.refl (S : TypeId → Bool) (w : World) : Kp S w w := ⟨Nat.le_refl _, fun _ _ _ _ _ _ => rfl⟩
theorem Kp.trans {S : TypeId → Bool} {a b c : World} (h : Kp S a b) (k : Kp S b c) : Kp S a c :=
  ⟨Nat.le_trans h.size k.size, fun j cur t f hj hs => by
    have e := h.blk j cur t f hj hs
    rw [k.blk j cur t f (by rw [e]; exact hj) hs, e]⟩
theorem Kp.weak {S S' : TypeId → Bool} {a b : World} (h : Kp S a b) (hs : ∀ t, S' t = true → S t = true) : Kp S' a b := ⟨h.size, fun j cur t f hj hh => h.blk j cur t f hj (hs t hh)⟩
theorem Kp.below {w w' : World} (S : TypeId → Bool) (h : Below w.heap.size w w') : Kp S w w' := ⟨h.size, fun j _ _ _ hj _ => h.block j (some_lt hj)⟩
/-- Where only a block of type T may have turned. -/
theorem Kp.chg {w w' : World} {P : Nat} {cs : Array Value} {T : TypeId} {f : Nat × Nat} (hP : w.heap[P]? = some (.cells cs T f)) (c : Chg P w w') (S : TypeId → Bool) (hS : S T = false) : Kp S w w' :=
  ⟨c.size, fun j cur t f hj hs => c.block j (some_lt hj) fun e => by
    rw [e, hP] at hj
    simp only [Option.some.injEq, Obj.cells.injEq] at hj
    rw [← hj.2.1, hS] at hs
    cases hs⟩
theorem Kp.grown {w w' : World} {B n k cap : Nat} {o : Option Addr} {T : TypeId} {xs : List Value} (h : w.ownsRow B T k (.slice o n cap) n xs) (g : w.grownBy w' (Value.slice o n cap).ownBlock) (S : TypeId → Bool) (hS : S T = false) : Kp S w w' :=
  ⟨g.size, fun j cur t f hj hs => g.block j (some_lt hj) fun e => by
    rcases h.2 with ⟨h1, _⟩ | ⟨b, c, cu, h1, _, h3, _⟩
    · rw [h1] at e
      simp [Value.ownBlock] at e
    · rw [h1] at e
      simp only [Value.ownBlock, Option.some.injEq] at e
      rw [e, h3] at hj
      simp only [Option.some.injEq, Obj.cells.injEq] at hj
      rw [← hj.2.1, hS] at hs
      cases hs⟩
/-- Numbers in a block of this type. -/
def NumG (k : IntKind) (t : TypeId) (w : World) (d : NumD) : Prop := d.ok k w ∧ (d.n = 0 ∨ ∃ (g : Addr) (cur : Array Value) (f : Nat × Nat), d.o = some g ∧ w.heap[g.block]? = some (.cells cur t f))
theorem NumG.kp {k : IntKind} {t : TypeId} {w w' : World} {d : NumD} {S : TypeId → Bool} (h : NumG k t w d) (q : Kp S w w') (hS : S t = true) : NumG k t w' d := by
  obtain ⟨h, ht⟩ := h
  rcases ht with h0 | ⟨g, cur, f, e, hg⟩
  · exact ⟨⟨h.le, h.most, h.len, h.nil, h.wf, Or.inl h0⟩, Or.inl h0⟩
  · have e2 := q.blk _ _ _ _ hg hS
    refine ⟨⟨h.le, h.most, h.len, h.nil, h.wf, ?_⟩, Or.inr ⟨g, cur, f, e, by rw [e2]; exact hg⟩⟩
    rcases h.at' with h0 | ⟨a, h1, h2, h3⟩
    · exact Or.inl h0
    · rw [e] at h1
      cases h1
      refine Or.inr ⟨g, e, Nat.lt_of_lt_of_le h2 q.size, fun i hi => ?_⟩
      rw [World.cell?_of_block (w := w) (by rw [add_block]; exact e2)]
      exact h3 i hi
/-- A list of parts in a row of its own. -/
structure LR {D : Type} (w : World) (B : Nat) (t : TypeId) (k : Nat) (cs : D → List Value) (ok : World → D → Prop) (o : Option Addr) (n cap : Nat) (L : List D) : Prop where
  own : w.ownsRow B t k (.slice o n cap) n (L.flatMap cs)
  len : L.length = n
  ok : ∀ d ∈ L, ok w d
section
variable {D : Type} {w w' : World} {B : Nat} {t : TypeId} {k : Nat} {cs : D → List Value} {ok : World → D → Prop} {o : Option Addr} {n cap : Nat} {L : List D}
theorem LR.nil (w : World) (B : Nat) (t : TypeId) (k : Nat) (cs : D → List Value) (ok : World → D → Prop) : LR w B t k cs ok none 0 0 [] := ⟨World.ownsRow_nil _ _ _ _, rfl, by simp⟩
theorem own_kp {xs : List Value} {S : TypeId → Bool} (h : w.ownsRow B t k (.slice o n cap) n xs) (q : Kp S w w') (hS : S t = true) : w'.ownsRow B t k (.slice o n cap) n xs := by
  refine ⟨h.1, ?_⟩
  rcases h.2 with hn | ⟨g, c, cur, hv, hb, hg, rest⟩
  · exact Or.inl hn
  · exact Or.inr ⟨g, c, cur, hv, hb, by rw [q.blk g cur _ _ hg hS]; exact hg, rest⟩
theorem LR.kp {S : TypeId → Bool} (h : LR w B t k cs ok o n cap L) (q : Kp S w w') (hS : S t = true) (hok : ∀ d, ok w d → ok w' d) : LR w' B t k cs ok o n cap L := ⟨own_kp h.own q hS, h.len, fun d hd => hok d (h.ok d hd)⟩
theorem LR.capm (h : LR w B t k cs ok o n cap L) : n ≤ cap ∧ cap ≤ maxLen := by
  rcases h.own.2 with ⟨h1, h2⟩ | ⟨g, c, cur, h1, _, _, h2, h3, _⟩
  · simp only [Value.slice.injEq] at h1
    unfold maxLen
    omega
  · simp only [Value.slice.injEq] at h1
    omega
theorem LR.app {g c : Nat} {d : D} (h : LR w B t k cs ok o n cap L) (hok : ∀ d, ok w d → ok w' d) (hd : ok w d) (hown : w'.ownsRow B t k (.slice (some ⟨g, 0, none⟩) (n + 1) c) (n + 1) (L.flatMap cs ++ cs d)) : LR w' B t k cs ok (some ⟨g, 0, none⟩) (n + 1) c (L ++ [d]) := by
  refine ⟨by rw [List.flatMap_append]; simpa using hown, by simp [h.len], fun x hx => ?_⟩
  rw [List.mem_append, List.mem_singleton] at hx
  rcases hx with hx | rfl
  · exact hok x (h.ok x hx)
  · exact hok _ hd
theorem flat_at (cs : D → List Value) (k : Nat) (hl : ∀ d, (cs d).length = k) : ∀ (L : List D) (i r : Nat) (h : i < L.length), r < k → (L.flatMap cs)[i * k + r]? = (cs L[i])[r]?
  | [], i, r, h, _ => absurd h (by simp)
  | d :: L, 0, r, h, hr => by
    rw [List.flatMap_cons, List.getElem?_append_left (by rw [hl]; omega)]
    simp
  | d :: L, i + 1, r, h, hr => by
    have h2 : i < L.length := by simpa using h
    have := flat_at cs k hl L i r h2 hr
    rw [List.flatMap_cons, List.getElem?_append_right (by rw [hl, Nat.add_mul]; omega), hl, show (i + 1) * k + r - k = i * k + r by rw [Nat.add_mul]; omega, this]
    simp
theorem LR.rows (h : LR w B t k cs ok o n cap L) (hl : ∀ d, (cs d).length = k) : RowsOf w k cs ok o cap L := by
  have hc := h.capm
  refine ⟨by rw [h.len]; exact hc.1, hc.2, ?_, h.ok, ?_⟩
  · intro e
    rcases h.own.2 with ⟨h1, _⟩ | ⟨g, c, cur, h1, _⟩
    · simp only [Value.slice.injEq] at h1
      exact h1.2.2
    · rw [e] at h1
      simp at h1
  · rcases Nat.eq_zero_or_pos n with h0 | h0
    · left
      have := h.len
      rw [h0] at this
      exact List.length_eq_zero_iff.1 this
    · right
      obtain ⟨g, c, hv, _, hg⟩ := h.own.form h0
      simp only [Value.slice.injEq] at hv
      obtain ⟨rfl, _, rfl⟩ := hv
      refine ⟨g, 0, rfl, hg, fun i hi r hr => ?_⟩
      have hik : i < n := by rw [← h.len]; exact hi
      have hb : i * k + r < n * k := by
        have : (i + 1) * k ≤ n * k := Nat.mul_le_mul_right k hik
        rw [Nat.add_mul] at this
        omega
      rw [← flat_at cs k hl L i r hi hr, ← h.own.cellAt (i * k + r) hb, Nat.zero_add]
theorem LR.typed (h : LR w B t k cs ok o n cap L) : n = 0 ∨ ∃ (g : Nat) (cur : Array Value), o = some ⟨g, 0, none⟩ ∧ B ≤ g ∧ w.heap[g]? = some (.cells cur t (0, 0)) := by
  rcases h.own.2 with ⟨_, h2⟩ | ⟨g, c, cur, h1, h2, h3, _⟩
  · exact Or.inl h2
  · simp only [Value.slice.injEq] at h1
    exact Or.inr ⟨g, cur, h1.1, h2, h3⟩
end
/-- A list of numbers in a row of its own. -/
theorem LR.num {w : World} {B : Nat} {t : TypeId} {kd : IntKind} {o : Option Addr} {n cap : Nat} {L : List Int} (h : LR w B t 1 (fun x => [Value.int kd x]) (fun _ x => (Lit.int kd x).wf = true) o n cap L) : NumG kd t w ⟨o, n, cap, L⟩ := by
  have r := h.rows (fun _ => rfl)
  refine ⟨⟨by have := r.le; rw [h.len] at this; exact this, r.most, h.len, r.nil, fun x hx => h.ok x hx, ?_⟩, ?_⟩
  · rcases r.at' with h0 | ⟨b, f, h1, h2, h3⟩
    · left
      rw [← h.len, h0]
      rfl
    · right
      refine ⟨⟨b, f, none⟩, h1, h2, fun i hi => ?_⟩
      have hi : i < n := hi
      have hi2 : i < L.length := by rw [h.len]; exact hi
      have := h3 i hi2 0 (by omega)
      rw [Nat.mul_one, Nat.add_zero] at this
      have hadd : (⟨b, f, none⟩ : Addr).add i = ⟨b, f + i, none⟩ := by unfold Addr.add; split <;> simp_all
      rw [hadd, this, List.getD_eq_getElem?_getD, List.getElem?_eq_getElem hi2]
      rfl
  · rcases h.typed with h0 | ⟨g, cur, h1, _, h3⟩
    · exact Or.inl h0
    · exact Or.inr ⟨⟨g, 0, none⟩, cur, (0, 0), h1, h3⟩
end Go.Proofs.Ytfmmefmpjejioaa
