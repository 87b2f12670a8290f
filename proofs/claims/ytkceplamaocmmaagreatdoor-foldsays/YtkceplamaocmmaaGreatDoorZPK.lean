/-
  Folding, the document's own way: what comes instead, where whatever stands there.
  Folding, the document's own way: its step is the program's.
-/
import Derived.Test.YtkceplamaocmmaaGreatDoorZPG
import Derived.Test.YtkceplamaocmmaaGreatDoorZPJ
import Derived.Test.YtkceplamaocmmaaGreatDoorZFU5f
import Derived.Test.YtkceplamaocmmaaGreatDoorZFU5g
import Derived.Test.YtkceplamaocmmaaGreatDoorZPM
import Derived.Test.YtkceplamaocmmaaGreatDoorZFK3
set_option maxHeartbeats 8000000
set_option maxRecDepth 1000000
namespace Go.Proofs.YtkceplamaocmmaaGreatDoor
open Go.RowKit
set_option linter.unusedVariables false
theorem rins_n (b f cap n : Nat) (Ls : List InsD) (x y z : InsD) (w : World) (hl : Ls.length = n) (hn2 : 2 ≤ n) (hn : n ≤ 200) (hcap : n ≤ cap) (hcm : cap ≤ 9223372036854775807) (h : LD w (some ⟨b, f, none⟩) Ls) (hx : Ls[0]! = x) (hy : Ls[1]! = y) (hz : Ls[2]! = z) (hy2 : n = 2 → isC y.op = false) (e : Nat) (hf : Int) (hif : isO y.op → upV ((Ls.drop 1).map InsD.op) 0 0 (-1) = ((e : Int), hf) ∧ 0 < e ∧ e + 2 < n ∧ (hf = -1 ∨ ∃ t : Nat, hf = (t : Int) ∧ 0 < t ∧ t < e)) (hcase : x.op = 1) :
    Calls Tryz.prog 11 #[.slice (some ⟨b, f, none⟩) n cap] w fun r w' => DOut w w' r (some (1, [])) := by
  obtain ⟨b', f', e1, hb, ⟨x0, x1, x2, x3⟩, y0, y1, y2, y3⟩ := h.two 0 (by omega)
  cases e1
  rw [hx] at x0 x1 x2 x3
  rw [show f + 0 * 4 = f by omega] at x0 x1 x2 x3
  have h0 : 0 < n := by omega
  clear h hl hif hx hy hz hy2 y0 y1 y2 y3
  obtain ⟨op, A, B, xo, xn, xc, xs⟩ := x
  simp only at *
  subst hcase
  go_enter Tryz.func11, Tryz.ntmps11
  go_wp2
  go_ret2
  exact DOut.gone fch2 1 1 rfl (by omega)
theorem rinstead (b f cap n : Nat) (Ls : List InsD) (x y z : InsD) (w : World) (hl : Ls.length = n) (hn2 : 2 ≤ n) (hn : n ≤ 200) (hcap : n ≤ cap) (hcm : cap ≤ 9223372036854775807) (h : LD w (some ⟨b, f, none⟩) Ls) (hx : Ls[0]! = x) (hy : Ls[1]! = y) (hz : Ls[2]! = z) (hy2 : n = 2 → isC y.op = false) (e : Nat) (hf : Int) (hif : isO y.op → upV ((Ls.drop 1).map InsD.op) 0 0 (-1) = ((e : Int), hf) ∧ 0 < e ∧ e + 2 < n ∧ (hf = -1 ∨ ∃ t : Nat, hf = (t : Int) ∧ 0 < t ∧ t < e)) :
    Calls Tryz.prog 11 #[.slice (some ⟨b, f, none⟩) n cap] w fun r w' => DOut w w' r (insV Ls x y z e hf) := by
  by_cases e1 : x.op = 1
  · have hv : insV Ls x y z e hf = some (1, []) := by unfold insV; rw [show chg0 x = some (1, []) from if_pos e1]; rfl
    rw [hv]
    exact rins_n b f cap n Ls x y z w hl hn2 hn hcap hcm h hx hy hz hy2 e hf hif e1
  by_cases e65 : x.op = 65
  · exact rins_f b f cap n Ls x y z w hl hn2 hn hcap hcm h hx hy hz hy2 e hf hif e65
  by_cases e66 : x.op = 66
  · exact rins_g b f cap n Ls x y z w hl hn2 hn hcap hcm h hx hy hz hy2 e hf hif e66
  by_cases ed : x.op = 12 ∨ x.op = 14 ∨ x.op = 15 ∨ x.op = 0
  · by_cases ey : y.op = 5 ∨ y.op = 11
    · exact rins_a b f cap n Ls x y z w hl hn2 hn hcap hcm h hx hy hz hy2 e hf hif ⟨e1, e65, e66, ed, ey⟩
    by_cases ho : 2 ≤ y.op ∧ y.op ≤ 4
    · exact rins_b b f cap n Ls x y z w hl hn2 hn hcap hcm h hx hy hz hy2 e hf hif ⟨e1, e65, e66, ed, ho⟩
    · exact rins_c b f cap n Ls x y z w hl hn2 hn hcap hcm h hx hy hz hy2 e hf hif ⟨e1, e65, e66, ed, fun h => ey (Or.inl h), fun h => ey (Or.inr h), ho⟩
  by_cases e3 : y.op = 26 ∧ (x.op = 32 ∨ x.op = 35)
  · exact rins_d b f cap n Ls x y z w hl hn2 hn hcap hcm h hx hy hz hy2 e hf hif ⟨e1, e65, e66, Or.inl e3⟩
  by_cases e6 : x.op = 33 ∧ y.op = 32 ∧ x.A = y.A
  · exact rins_d b f cap n Ls x y z w hl hn2 hn hcap hcm h hx hy hz hy2 e hf hif ⟨e1, e65, e66, Or.inr e6⟩
  · exact rins_e b f cap n Ls x y z w hl hn2 hn hcap hcm h hx hy hz hy2 e hf hif ⟨e1, e65, e66, ed, e3, e6⟩
end Go.Proofs.YtkceplamaocmmaaGreatDoor
namespace Go.Proofs.YtkceplamaocmmaaGreatDoor
open Go.RowKit
set_option linter.unusedVariables false
theorem sgI_drop (M : List InsD) (i a b : Nat) : sgI (M.drop i) a b = sgI M (i + a) (i + b) := by
  unfold sgI
  rw [List.drop_drop, show i + b - (i + a) = b - a by omega]
theorem sgI_to (M : List InsD) (a b : Nat) (h : a ≤ b) : sgI M a b ++ M.drop b = M.drop a := by
  unfold sgI
  have e : M.drop b = (M.drop a).drop (b - a) := by rw [List.drop_drop]; congr 1; omega
  rw [e, List.take_append_drop]
theorem drop_get (M : List InsD) (i j : Nat) (h : i + j < M.length) : (M.drop i)[j]! = M[i + j]! := by
  rw [getElem!_pos (M.drop i) j (by rw [List.length_drop]; omega), getElem!_pos M (i + j) h, List.getElem_drop]
theorem drop_get' (M : List InsD) (i j : Nat) : (M.drop i)[j]! = M[i + j]! := by
  by_cases h : i + j < M.length
  · exact drop_get M i j h
  · rw [getElem!_neg (M.drop i) j (by rw [List.length_drop]; omega), getElem!_neg M (i + j) h]
theorem fst_or {α : Type} : ∀ (a : Option α) (l : List (Option α)), fstS (a :: l) = a.or (fstS l)
  | none, _ => rfl
  | some _, _ => rfl
def dV (M : List InsD) (i : Nat) (e : Nat) (hf : Int) : Option (Nat × List InsD) := if i + 1 < M.length then insV (M.drop i) (M[i]!) (M[i+1]!) (M[i+2]!) e hf else none
structure Ends (M : List InsD) (i : Nat) (e : Nat) (hf : Int) : Prop where
  up : isO (M[i+1]!).op → upV (((M.drop i).drop 1).map InsD.op) 0 0 (-1) = ((e : Int), hf) ∧ 0 < e ∧ e + 2 < M.length - i ∧ (hf = -1 ∨ ∃ t : Nat, hf = (t : Int) ∧ 0 < t ∧ t < e)
  en : isO (M[i+1]!).op → (matchOf M).2.1.getD (i + 1) 0 = ((i + 1 + e : Nat) : Int)
  turn : (M[i+1]!).op = 4 → (hf = -1 ∧ (matchOf M).2.2.getD (i + 1) 0 = -1) ∨ ∃ t : Nat, hf = (t : Int) ∧ 0 < t ∧ t < e ∧ (matchOf M).2.2.getD (i + 1) 0 = ((i + 1 + t : Nat) : Int)
theorem ends_of {M : List InsD} (hM : Fine M) (i : Nat) (hi : i + 1 < M.length) : ∃ e hf, Ends M i e hf := by
  have hy : M[i+1]! = M[i+1] := getElem!_pos M (i+1) hi
  have oy := opAt_get M (i+1) hi
  by_cases ho : isO (M[i+1]!).op
  · rw [hy, ← oy] at ho
    obtain ⟨q, e1, h1, h2, h3, h4⟩ := up_at hM (i + 1) hi ho
    have hd : ((M.drop i).drop 1).map InsD.op = (M.map InsD.op).drop (i + 1) := by rw [List.drop_drop, List.map_drop]
    rcases h4 with ⟨h4, h5⟩ | ⟨h4, t, h5, h6, h7, h8⟩
    · refine ⟨q - (i + 1), -1, ⟨fun _ => ⟨?_, by omega, by omega, Or.inl rfl⟩, fun _ => by rw [e1]; congr 1; omega, fun h => Or.inl ⟨rfl, h5 (by rw [oy, ← hy]; exact h)⟩⟩⟩
      rw [hd, h4]
      congr 1
      omega
    · refine ⟨q - (i + 1), ((t - (i + 1) : Nat) : Int), ⟨fun _ => ⟨?_, by omega, by omega, Or.inr ⟨_, rfl, by omega, by omega⟩⟩, fun _ => by rw [e1]; congr 1; omega, fun h => Or.inr ⟨_, rfl, by omega, by omega, by rw [h5]; congr 1; omega⟩⟩⟩
      rw [hd, h8]
      simp only [Prod.mk.injEq]
      omega
  · exact ⟨0, -1, ⟨fun h => absurd h ho, fun h => absurd h ho, fun h => absurd (by rw [h]; exact Or.inr (Or.inr rfl)) ho⟩⟩
theorem chg5_same {M : List InsD} (hM : Fine M) (i : Nat) (hi : i + 1 < M.length) {e : Nat} {hf : Int} (hE : Ends M i e hf) : chg5 (matchOf M).2.1 i (M[i]!) (M[i+1]!) = chg5D (M[i]!) (M[i+1]!) e := by
  unfold chg5 chg5D
  by_cases h : ((M[i]!).op = 12 ∨ (M[i]!).op = 14 ∨ (M[i]!).op = 15 ∨ (M[i]!).op = 0) ∧ (M[i+1]!).op ≠ 11 ∧ (M[i+1]!).op ≠ 5
  · rw [if_pos h, if_pos h]
    have hy : M[i+1]! = M[i+1] := getElem!_pos M (i+1) hi
    have oy := opAt_get M (i+1) hi
    by_cases ho : 2 ≤ (M[i+1]!).op ∧ (M[i+1]!).op ≤ 4
    · rw [if_pos ho]
      have hO : isO (M[i+1]!).op := by unfold isO; omega
      have := hE.en hO
      unfold sizeE
      rw [this, if_neg (by omega), show ((i + 1 + e : Nat) : Int).toNat + 1 - (i + 1) = e + 1 by omega]
    · rw [if_neg ho]
      cases fine_at hM (i + 1) hi (by rw [oy, ← hy]; exact h.2.2) (by rw [oy, ← hy]; exact h.2.1) with
      | one o e1 => unfold sizeE; rw [e1, if_pos (by omega)]
      | block q d s h1 hq o oq e1 r => rw [oy, ← hy] at o; omega
      | turn t q d s d2 s2 h1 ht hq o ot oq e1 te r r2 => rw [oy, ← hy] at o; omega
  · rw [if_neg h, if_neg h]
theorem dV_step {M : List InsD} (hM : Fine M) (i : Nat) (hi : i + 1 < M.length) {e : Nat} {hf : Int} (hE : Ends M i e hf) : (dV M i e hf = none → chgAt M i = none) ∧ ∀ k I, dV M i e hf = some (k, I) → ∃ k' I', chgAt M i = some (k', I') ∧ M.take i ++ I ++ M.drop (i + k) = nextL M i k' I' ∧ i + k < M.length := by
  have hdv : dV M i e hf = insV (M.drop i) (M[i]!) (M[i+1]!) (M[i+2]!) e hf := if_pos hi
  have hc : chgAt M i = (chg0 (M[i]!)).or ((chg1 (M[i]!) (M[i+1]!)).or ((chg2 (M[i]!) (M[i+1]!) (M[i+2]!)).or ((chg3 (M[i]!) (M[i+1]!)).or ((chg4 (M[i]!) (M[i+1]!)).or ((chg5D (M[i]!) (M[i+1]!) e).or ((chg6 (M[i]!) (M[i+1]!)).or ((chg7 M (matchOf M).2.1 (matchOf M).2.2 i (M[i]!) (M[i+1]!)).or ((chg8 (M[i]!) (M[i+1]!)).or ((chg9 (M[i]!) (M[i+1]!)).or (chg10 (M[i]!) (M[i+1]!))))))))))) := by
    unfold chgAt chgs
    rw [chg5_same hM i hi hE]
    simp only [fst_or, fstS, Option.or_none]
  have hsame : ∀ k I, chgAt M i = some (k, I) → ∃ k' I', chgAt M i = some (k', I') ∧ M.take i ++ I ++ M.drop (i + k) = nextL M i k' I' ∧ i + k < M.length := fun k I h => ⟨k, I, h, rfl, (chg_res hM i hi k I (fstS_mem _ _ h)).lt⟩
  have key : laterV (M.drop i) (M[i]!) (M[i+1]!) e hf = (chg7 M (matchOf M).2.1 (matchOf M).2.2 i (M[i]!) (M[i+1]!)).or ((chg8 (M[i]!) (M[i+1]!)).or ((chg9 (M[i]!) (M[i+1]!)).or (chg10 (M[i]!) (M[i+1]!)))) ∨ ((M[i]!).op = 65 ∧ (M[i+1]!).op = 4) := by
    by_cases h : (M[i]!).op = 65 ∧ (M[i+1]!).op = 4
    · exact Or.inr h
    · left
      unfold laterV chg7
      rw [if_neg h, if_neg h]
      rfl
  rcases key with key | h74
  · have : dV M i e hf = chgAt M i := by rw [hdv, hc]; unfold insV; rw [key]
    rw [this]
    exact ⟨fun h => h, hsame⟩
  · have hL : laterV (M.drop i) (M[i]!) (M[i+1]!) e hf = some (e + 2, ifW (M.drop i) (M[i]!) (M[i+1]!) e hf) := if_pos h74
    have h7 : chg7 M (matchOf M).2.1 (matchOf M).2.2 i (M[i]!) (M[i+1]!) = some (ifV M ((matchOf M).2.1.getD (i + 1) 0) ((matchOf M).2.2.getD (i + 1) 0) i (M[i]!) (M[i+1]!)) := if_pos h74
    rw [hdv, hc]
    unfold insV
    rw [hL, h7]
    have hO : isO (M[i+1]!).op := by rw [h74.2]; exact Or.inr (Or.inr rfl)
    obtain ⟨hup, he0, he2, hz⟩ := hE.up hO
    clear hz hup
    have hq : i + 1 + e < M.length := by omega
    have hen := hE.en hO
    have htu := hE.turn h74.2
    -- the first seven are the same
    have first : ∀ (a b c d f g h' : Option (Nat × List InsD)) (u v : Nat × List InsD) (t : Option (Nat × List InsD)), (a.or (b.or (c.or (d.or (f.or (g.or (h'.or (some u))))))) = a.or (b.or (c.or (d.or (f.or (g.or (h'.or ((some v).or t)))))))) ∨ (a.or (b.or (c.or (d.or (f.or (g.or (h'.or (some u)))))))  = some u ∧ a.or (b.or (c.or (d.or (f.or (g.or (h'.or ((some v).or t))))))) = some v) := by
      intro a b c d f g h' u v t
      cases a <;> cases b <;> cases c <;> cases d <;> cases f <;> cases g <;> cases h' <;> first | exact Or.inl rfl | exact Or.inr ⟨rfl, rfl⟩
    rcases first (chg0 (M[i]!)) (chg1 (M[i]!) (M[i+1]!)) (chg2 (M[i]!) (M[i+1]!) (M[i+2]!)) (chg3 (M[i]!) (M[i+1]!)) (chg4 (M[i]!) (M[i+1]!)) (chg5D (M[i]!) (M[i+1]!) e) (chg6 (M[i]!) (M[i+1]!)) (e + 2, ifW (M.drop i) (M[i]!) (M[i+1]!) e hf) (ifV M ((matchOf M).2.1.getD (i + 1) 0) ((matchOf M).2.2.getD (i + 1) 0) i (M[i]!) (M[i+1]!)) ((chg8 (M[i]!) (M[i+1]!)).or ((chg9 (M[i]!) (M[i+1]!)).or (chg10 (M[i]!) (M[i+1]!)))) with h1 | ⟨h1, h2⟩
    · rw [h1]
      rw [hc, h7] at hsame
      exact ⟨fun h => h, hsame⟩
    · rw [h1, h2]
      refine ⟨fun h => (by cases h), fun k I h => ?_⟩
      simp only [Option.some.injEq, Prod.mk.injEq] at h
      obtain ⟨rfl, rfl⟩ := h
      refine ⟨(ifV M ((matchOf M).2.1.getD (i + 1) 0) ((matchOf M).2.2.getD (i + 1) 0) i (M[i]!) (M[i+1]!)).1, (ifV M ((matchOf M).2.1.getD (i + 1) 0) ((matchOf M).2.2.getD (i + 1) 0) i (M[i]!) (M[i+1]!)).2, rfl, ?_, by omega⟩
      rw [hen]
      unfold ifW ifV nextL
      have hLs : (M.drop i)[e+1]! = M[i + 1 + e]! := by rw [drop_get', show i + (e + 1) = i + 1 + e by omega]
      have hdr : M.drop (i + 1 + e) = M[i + 1 + e]! :: M.drop (i + (e + 2)) := by
        rw [getElem!_pos M (i + 1 + e) hq, List.drop_eq_getElem_cons hq, show i + 1 + e + 1 = i + (e + 2) by omega]
      rcases htu with ⟨rfl, ht⟩ | ⟨t, rfl, ht0, ht1, ht⟩
      · rw [ht]
        have k1 : ¬ (0 : Int) ≤ -1 := by omega
        have k2 : ¬ (i : Int) < -1 := by omega
        by_cases hA : (M[i]!).A = 0
        · have hB : ¬ (M[i]!).A ≠ 0 := fun h => h hA
          rw [if_neg hB, if_neg hB, if_neg k1, if_neg k2]
          simp only
          rw [show i + (((i + 1 + e : Nat) : Int).toNat + 1 - i) = i + (e + 2) by omega]
        · have hB : (M[i]!).A ≠ 0 := hA
          rw [if_pos hB, if_pos hB, if_neg k1, if_neg k2]
          simp only
          rw [sgI_drop, List.append_assoc, List.append_assoc, List.cons_append, sgI_to M (i + 2) (i + (e + 2)) (by omega)]
          rfl
      · rw [ht]
        have k1 : (0 : Int) ≤ (t : Int) := by omega
        have k2 : (i : Int) < ((i + 1 + t : Nat) : Int) := by omega
        by_cases hA : (M[i]!).A = 0
        · have hB : ¬ (M[i]!).A ≠ 0 := fun h => h hA
          rw [if_neg hB, if_neg hB, if_pos k1, if_pos k2]
          simp only
          rw [sgI_drop, List.append_assoc, List.append_assoc, List.cons_append, show ((t : Int).toNat) = t by omega, sgI_to M (i + (t + 2)) (i + (e + 2)) (by omega), show i + (((i + 1 + t : Nat) : Int).toNat + 1 - i) = i + (t + 2) by omega]
          rfl
        · have hB : (M[i]!).A ≠ 0 := hA
          rw [if_pos hB, if_pos hB, if_pos k1, if_pos k2]
          simp only
          rw [hLs, sgI_drop, show ((t : Int).toNat) = t by omega, show i + (((i + 1 + e : Nat) : Int).toNat - i) = i + 1 + e by omega, hdr, show ((i + 1 + t : Nat) : Int).toNat = i + (t + 1) by omega]
          simp
end Go.Proofs.YtkceplamaocmmaaGreatDoor
