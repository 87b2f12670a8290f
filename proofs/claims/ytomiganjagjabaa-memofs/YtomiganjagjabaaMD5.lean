/-
  Bytes that are laid into a row of which one place behind its end is marked; append of zeros where there is room.
-/
import Derived.Test.YtomiganjagjabaaMD4
namespace Go.Proofs.Ytomiganjagjabaa
open Go.RowKit

/-- A row of bytes, and which of its places are marked. -/
def RW (w : World) (g : Nat) (L : List Int) (t : TypeId) (fz : Nat × Nat) : Prop := w.heap[g]? = some (.cells (bC L).toArray t fz)
theorem RW.c {w : World} {g : Nat} {L : List Int} {t : TypeId} {fz : Nat × Nat} (h : RW w g L t fz) (i : Nat) (hi : i < L.length) : w.cell? ⟨g, i, none⟩ = some (.int .u8 (L.getD i 0)) := by
  unfold RW at h
  simp [World.cell?, h, hi]
theorem RW.f {w : World} {g : Nat} {L : List Int} {t : TypeId} {fz : Nat × Nat} (h : RW w g L t fz) (hf : fz = (0, 0) ∨ fz.1 = L.length) (i : Nat) (hi : i < L.length) : w.frozen? ⟨g, i, none⟩ = false := by
  unfold RW at h
  rcases hf with hf | hf
  · simp [World.frozen?, h, hf]
  · simp [World.frozen?, h, hf]
    omega
theorem RW.set {w : World} {g : Nat} {L : List Int} {t : TypeId} {fz : Nat × Nat} (h : RW w g L t fz) (i : Nat) (x : Int) : RW (w.setCell ⟨g, i, none⟩ (.int .u8 x)) g (L.set i x) t fz := by
  unfold RW at h ⊢
  simp [World.setCell, Array.getElem?_modify, h, List.map_set]
theorem splice_cons (L : List Int) (k : Nat) (x : Int) (vs : List Int) (h : k + (vs.length + 1) ≤ L.length) : splice (L.set k x) (k + 1) vs = splice L k (x :: vs) := by
  apply List.ext_getElem?
  intro j
  rw [splice_get _ _ _ (by rw [List.length_set]; omega), splice_get _ _ _ (by rw [List.length_cons]; omega), List.length_cons, List.getElem?_set]
  by_cases h1 : k + 1 ≤ j ∧ j < k + 1 + vs.length
  · rw [if_pos h1, if_pos (by omega), show j - k = (j - (k + 1)) + 1 by omega, List.getElem?_cons_succ]
  · rw [if_neg h1]
    by_cases h2 : k = j
    · subst h2
      rw [if_pos rfl, if_pos (by omega), if_pos (by omega), Nat.sub_self, List.getElem?_cons_zero]
    · rw [if_neg h2, if_neg (by omega)]
theorem store_row (g o : Nat) (t : TypeId) (fz : Nat × Nat) : ∀ (vs : List Int) (i : Nat) (L : List Int) (w : World), RW w g L t fz → (fz = (0, 0) ∨ fz.1 = L.length) → o + i + vs.length ≤ L.length →
    ∃ w', (storeCells ⟨g, o, none⟩ (bC vs) i).run Try.prog w = .ok () w' ∧ RW w' g (splice L (o + i) vs) t fz ∧ Chg g w w'
  | [], i, L, w, h, _, _ => ⟨w, rfl, by have e : splice L (o + i) [] = L := by simp [splice]
                                        rw [e]; exact h, Chg.refl _ _⟩
  | x :: vs, i, L, w, h, hf, hl => by
    rw [List.length_cons] at hl
    have hi : o + i < L.length := by omega
    have hst : (store ((⟨g, o, none⟩ : Addr).add i) (.int .u8 x)).run Try.prog w = .ok () (w.setCell ⟨g, o + i, none⟩ (.int .u8 x)) := by
      rw [addOf, run_store Try.prog w _ (.int .u8 x) _ rfl, h.c (o + i) hi]
      simp [h.f hf (o + i) hi]
    obtain ⟨w', h1, h2, h3⟩ := store_row g o t fz vs (i + 1) (L.set (o + i) x) _ (h.set (o + i) x) (by rw [List.length_set]; exact hf) (by rw [List.length_set]; omega)
    have hc1 : Chg g w (w.setCell ⟨g, o + i, none⟩ (.int .u8 x)) := ⟨rfl, rfl, rfl, by simp [World.setCell], fun k _ hk => Below.heap_setCell w ⟨g, o + i, none⟩ _ k hk⟩
    refine ⟨w', ?_, ?_, hc1.trans h3⟩
    · simp only [bC, List.map_cons, storeCells, Sem.run_bind, hst, Result.andThen_ok]
      exact h1
    · rw [← splice_cons L (o + i) x vs (by omega)]
      exact h2
/-- append(s, make([]T, k)...) where there is room, by what the stores do. -/
theorem run_append_room {P : Program} (w w' : World) (t tn ty e : TypeId) (i : TypeInfo) (z : Value) (kq kn : IntKind) (ht : P.underlying t = some (.slice e)) (htn : P.underlying tn = some (.int kn)) (hi : P.info? e = some i) (hz : i.zero = some z)
    (g sLen sCap S : Nat) (hS : i.size = S) (hb : i.bytes ≤ 1000000) (k : Nat) (hk : k ≤ 1000000) (hg : sLen + k ≤ sCap) (news : List Value) (hn : news = if k * S = 0 then [] else (Builtin.zeroCells z.cells k).toList)
    (hst : (storeCells ⟨g, sLen * S, none⟩ news).run P w = .ok () w') :
    (Builtin.append_ #[t, tn] ty #[.slice (some ⟨g, 0, none⟩) sLen sCap, .int kq k]).run P w = .ok (.slice (some ⟨g, 0, none⟩) (sLen + k) sCap) w' := by
  have hw : IntKind.i64.wrap (k : Int) = k := by rw [IntKind.wrap_i64, Int.emod_eq_of_lt (by omega) (by omega)]; omega
  have hneg : ¬ ((k : Int) < 0) := by omega
  have h48i : ¬ (281474976710656 < (k : Int) * (i.bytes : Int)) := by
    rw [← Int.natCast_mul]
    have : k * i.bytes ≤ 1000000 * 1000000 := Nat.mul_le_mul hk hb
    omega
  have hadd : (⟨g, 0, none⟩ : Addr).add (sLen * S) = ⟨g, sLen * S, none⟩ := by rw [addOf, Nat.zero_add]
  by_cases h0 : k * S = 0
  · rw [if_pos h0] at hn
    subst hn
    simp [Builtin.append_, run_underlying ht, run_underlying htn, sizeOf, typeInfo, hi, hS, asInt, asIntOf, hw, hneg, h48i, hg, h0, hadd] at hst ⊢
    rw [hst]
    rfl
  · rw [if_neg h0] at hn
    have hz2 : (Builtin.zeroCells z.cells k).toList = news := hn.symm
    simp [Builtin.append_, run_underlying ht, run_underlying htn, sizeOf, typeInfo, zeroValue, hi, hz, hS, asInt, asIntOf, hw, hneg, h48i, hg, h0, hadd, hz2] at hst ⊢
    rw [hst]
    rfl
end Go.Proofs.Ytomiganjagjabaa
