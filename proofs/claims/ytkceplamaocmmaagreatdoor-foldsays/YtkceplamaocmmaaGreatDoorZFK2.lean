/-
  Each rule leaves a body that is shorter and no deeper: plain mathematics.
-/
import Derived.Test.YtkceplamaocmmaaGreatDoorZFK1
import Derived.Test.YtkceplamaocmmaaGreatDoorZPI
namespace Go.Proofs.YtkceplamaocmmaaGreatDoor
open Go.RowKit
set_option linter.unusedVariables false
def In64 (a : Int) : Prop := -9223372036854775808 ≤ a ∧ a ≤ 9223372036854775807
structure Fine (L : List InsD) : Prop where
  chk : nChk L = 0
  a : ∀ d ∈ L, In64 d.A
def sizeE (E : List Int) (p : Nat) : Nat := if E.getD p 0 < (p : Int) then 1 else (E.getD p 0).toNat + 1 - p
def chg5 (E : List Int) (i : Nat) (x y : InsD) : Option (Nat × List InsD) := if (x.op = 12 ∨ x.op = 14 ∨ x.op = 15 ∨ x.op = 0) ∧ y.op ≠ 11 ∧ y.op ≠ 5 then some (1 + sizeE E (i + 1), [x]) else none
def ifV (L : List InsD) (e t : Int) (i : Nat) (x y : InsD) : Nat × List InsD := if x.A ≠ 0 then (if (i : Int) < t then (e.toNat - i, mkD 2 y.A :: sgI L (i + 2) t.toNat) else (2, [mkD 2 y.A])) else if (i : Int) < t then (t.toNat + 1 - i, [mkD 2 y.A]) else (e.toNat + 1 - i, [])
def chg7 (L : List InsD) (E S : List Int) (i : Nat) (x y : InsD) : Option (Nat × List InsD) := if x.op = 65 ∧ y.op = 4 then some (ifV L (E.getD (i + 1) 0) (S.getD (i + 1) 0) i x y) else none
def chgs (L : List InsD) (i : Nat) : List (Option (Nat × List InsD)) :=
  [chg0 (L[i]!), chg1 (L[i]!) (L[i+1]!), chg2 (L[i]!) (L[i+1]!) (L[i+2]!), chg3 (L[i]!) (L[i+1]!), chg4 (L[i]!) (L[i+1]!), chg5 (matchOf L).2.1 i (L[i]!) (L[i+1]!), chg6 (L[i]!) (L[i+1]!), chg7 L (matchOf L).2.1 (matchOf L).2.2 i (L[i]!) (L[i+1]!), chg8 (L[i]!) (L[i+1]!), chg9 (L[i]!) (L[i+1]!), chg10 (L[i]!) (L[i+1]!)]
def fstS {α : Type} : List (Option α) → Option α
  | [] => none
  | some x :: _ => some x
  | none :: l => fstS l
theorem fstS_mem {α : Type} : ∀ (l : List (Option α)) (x : α), fstS l = some x → some x ∈ l
  | some y :: l, x, h => by cases h; simp
  | none :: l, x, h => by have := fstS_mem l x h; simp [this]
def chgAt (L : List InsD) (i : Nat) : Option (Nat × List InsD) := fstS (chgs L i)
def fstFrom (L : List InsD) : Nat → Nat → Option (Nat × Nat × List InsD)
  | 0, _ => none
  | f + 1, i => match chgAt L i with
    | some q => some (i, q)
    | none => fstFrom L f (i + 1)
def fstC (L : List InsD) : Option (Nat × Nat × List InsD) := fstFrom L (L.length - 1) 0
theorem fstFrom_some (L : List InsD) : ∀ (f i j : Nat) (q : Nat × List InsD), fstFrom L f i = some (j, q) → i ≤ j ∧ j < i + f ∧ chgAt L j = some q
  | 0, i, j, q, h => by cases h
  | f + 1, i, j, q, h => by
    rw [fstFrom] at h
    split at h
    · rename_i q' e
      simp only [Option.some.injEq, Prod.mk.injEq] at h
      obtain ⟨rfl, rfl⟩ := h
      exact ⟨by omega, by omega, e⟩
    · have := fstFrom_some L f (i + 1) j q h
      exact ⟨by omega, by omega, this.2.2⟩
def nextL (L : List InsD) (i k : Nat) (I : List InsD) : List InsD := L.take i ++ I ++ L.drop (i + k)
structure Res (L : List InsD) (i k : Nat) (I : List InsD) : Prop where
  lt : i + k < L.length
  fine : Fine (nextL L i k I)
  short : (nextL L i k I).length < L.length
  nd : NdLe (nextL L i k I) L
theorem res_of {L : List InsD} (hL : Fine L) (i k j : Nat) (I : List InsD) (h1 : i + k ≤ j) (hj : j ≤ L.length) (hk : i + k < L.length) {d s d2 s2 : Nat} (hp : Pc (sgI L i j) d s) (hq : Pc (I ++ sgI L (i + k) j) d2 s2) (hd : d2 ≤ d) (hs : s2 ≤ s) (hl : I.length < k) (hA : ∀ d ∈ I, In64 d.A) : Res L i k I := by
  have e : nextL L i k I = L.take i ++ (I ++ sgI L (i + k) j) ++ L.drop j := by
    unfold nextL sgI
    have e1 : L.drop j = (L.drop (i + k)).drop (j - (i + k)) := by rw [List.drop_drop]; congr 1; omega
    rw [e1, ← List.append_assoc, List.append_assoc _ ((L.drop (i + k)).take _), List.take_append_drop]
  have ea := sgI_around L i j (by omega) hj
  have hX : sgI L i j ≠ [] := fun h => by have := sgI_len L i j hj; rw [h] at this; simp at this; omega
  obtain ⟨a1, a2, a3⟩ := swap_body (L.take i) (sgI L i j) (I ++ sgI L (i + k) j) (L.drop j) hX hp hq hd hs (by rw [List.length_append, sgI_len L _ _ hj, sgI_len L _ _ hj]; omega) (by rw [ea]; exact hL.chk)
  rw [ea] at a2 a3
  refine ⟨hk, ⟨by rw [e]; exact a1, fun d hd => ?_⟩, by rw [e]; exact a2, by rw [e]; exact a3⟩
  unfold nextL at hd
  rcases List.mem_append.1 hd with hd | hd
  · rcases List.mem_append.1 hd with hd | hd
    · exact hL.a d (List.take_subset _ _ hd)
    · exact hA d hd
  · exact hL.a d (List.drop_subset _ _ hd)
theorem sgI_self (L : List InsD) (i : Nat) : sgI L i i = [] := by unfold sgI; rw [Nat.sub_self, List.take_zero]
theorem res_here {L : List InsD} (hL : Fine L) (i k : Nat) (I : List InsD) (hk : i + k < L.length) {d s d2 s2 : Nat} (hp : Pc (sgI L i (i + k)) d s) (hq : Pc I d2 s2) (hd : d2 ≤ d) (hs : s2 ≤ s) (hl : I.length < k) (hA : ∀ d ∈ I, In64 d.A) : Res L i k I :=
  res_of hL i k (i + k) I (Nat.le_refl _) (by omega) hk hp (by rw [sgI_self, List.append_nil]; exact hq) hd hs hl hA
theorem sgI_two (L : List InsD) (i : Nat) (h : i + 1 < L.length) : sgI L i (i + 2) = [L[i], L[i+1]] := by
  rw [← sgI_cat L i (i + 1) (i + 2) (by omega) (by omega), sgI_one L i (by omega), sgI_one L (i + 1) h]
  rfl
theorem sgI_three (L : List InsD) (i : Nat) (h : i + 2 < L.length) : sgI L i (i + 3) = [L[i], L[i+1], L[i+2]] := by
  rw [← sgI_cat L i (i + 2) (i + 3) (by omega) (by omega), sgI_two L i (by omega), sgI_one L (i + 2) h]
  rfl
theorem fine_chk {L : List InsD} (h : Fine L) : ∀ d ∈ L, chkD d = 0 := run_chk L [] false (nChk_ok L h.chk).2.1
theorem fine_last {L : List InsD} (h : Fine L) : opAt L (L.length - 1) = 11 := (match_seg L h.chk).1
theorem fine_at {L : List InsD} (h : Fine L) (p : Nat) (hp : p < L.length) (p5 : opAt L p ≠ 5) (p11 : opAt L p ≠ 11) : At L (matchOf L).2.1 (matchOf L).2.2 (L.length - 1) p := by
  obtain ⟨hl, d, s, hs⟩ := match_seg L h.chk
  refine seg_at hs p (by omega) ?_ p5 p11
  have : p ≠ L.length - 1 := fun e => p11 (by rw [e]; exact hl)
  omega
theorem chk_fit (d : InsD) (h : chkD d = 0) : besV d.op ≠ 0 ∧ fitB (besV d.op) d.A d.B d.n d.xs = true := by
  unfold chkD chkV at h
  split at h
  · cases h
  split at h
  · cases h
  split at h
  · exact ⟨by assumption, by assumption⟩
  · cases h
theorem chk_mk (op A : Int) (h0 : besV op ≠ 0) (h : fitB (besV op) A 0 0 [] = true) : chkD (mkD op A) = 0 := by
  show chkV op A 0 0 [] = 0
  unfold chkV
  rw [if_neg h0, if_neg (by omega), h, if_pos rfl]
theorem fit3 (A B : Int) (n : Nat) (xs : List Int) : fitB 3 A B n xs = true → numB A = true := by
  intro h
  unfold fitB at h
  split at h
  · cases h
  split at h
  · cases h
  rw [if_neg (by omega), if_neg (by omega), if_neg (by omega), if_pos (by omega)] at h
  simp only [Bool.and_eq_true] at h
  exact h.1.1
theorem fit3' (A : Int) (h : numB A = true) : fitB 3 A 0 0 [] = true := by
  unfold fitB
  rw [if_neg (by omega), if_neg (by omega), if_neg (by omega), if_neg (by omega), if_neg (by omega), if_pos (by omega), h]
  decide
theorem fit2 (A B : Int) (n : Nat) (xs : List Int) : fitB 2 A B n xs = true → isKB A = true := by
  intro h
  unfold fitB at h
  split at h
  · cases h
  split at h
  · cases h
  rw [if_pos rfl] at h
  exact h
theorem fit2' (A : Int) (h : isKB A = true) : fitB 2 A 0 0 [] = true := by
  unfold fitB
  rw [if_neg (by omega), if_neg (by omega), if_pos rfl]
  exact h
theorem chk_idx (d : InsD) (h : chkD d = 0) (op : Int) (h1 : besV d.op = 3) (h2 : besV op = 3) : chkD (mkD op d.A) = 0 := by
  refine chk_mk _ _ (by rw [h2]; decide) ?_
  have := (chk_fit d h).2
  rw [h1] at this
  rw [h2]
  exact fit3' _ (fit3 _ _ _ _ this)
theorem chk_blk (d : InsD) (h : chkD d = 0) (op : Int) (h1 : besV d.op = 2) (h2 : besV op = 2) : chkD (mkD op d.A) = 0 := by
  refine chk_mk _ _ (by rw [h2]; decide) ?_
  have := (chk_fit d h).2
  rw [h1] at this
  rw [h2]
  exact fit2' _ (fit2 _ _ _ _ this)
theorem chk_const (k n : Int) (h : k = 127 → -2147483648 ≤ n ∧ n ≤ 2147483647) : chkD (mkD (cOf k) n) = 0 := by
  unfold cOf
  split
  · rename_i e
    have := h e
    refine chk_mk 65 n (by decide) ?_
    show fitB 8 n 0 0 [] = true
    unfold fitB
    rw [if_neg (by omega), if_neg (by omega), if_neg (by omega), if_pos rfl, decide_eq_true this.1, decide_eq_true this.2]
    rfl
  · refine chk_mk 66 n (by decide) ?_
    show fitB 9 n 0 0 [] = true
    unfold fitB
    rw [if_neg (by omega), if_neg (by omega), if_neg (by omega), if_neg (by omega), if_pos rfl]
theorem sk_of {d : InsD} (h : d.op = 0 ∨ d.op = 1 ∨ 11 < d.op) : Sk d := by unfold Sk isO; omega
theorem sk_mk {op A : Int} (h : op = 0 ∨ op = 1 ∨ 11 < op) : Sk (mkD op A) := by show ¬ isO op ∧ op ≠ 5 ∧ op ≠ 11; unfold isO; omega
theorem isC_op {op : Int} (h : isC op = true) : op = 65 ∨ op = 66 := by simpa [isC] using h
theorem isOne_op {op : Int} (h : isOne op = true) : 11 < op := by
  simp only [isOne, Bool.or_eq_true, Bool.and_eq_true, beq_iff_eq, decide_eq_true_eq] at h
  omega
theorem isTwo_op {op : Int} (h : isTwo op = true) : 11 < op := by
  simp only [isTwo, Bool.or_eq_true, Bool.and_eq_true, decide_eq_true_eq] at h
  omega
theorem chg_res {L : List InsD} (hL : Fine L) (i : Nat) (hi : i + 1 < L.length) (k : Nat) (I : List InsD) (h : some (k, I) ∈ chgs L i) : Res L i k I := by
  have hck := fine_chk hL
  have hlast := fine_last hL
  have hx : L[i]! = L[i] := getElem!_pos L i (by omega)
  have hy : L[i+1]! = L[i+1] := getElem!_pos L (i+1) hi
  have cx : chkD (L[i]) = 0 := hck _ (List.getElem_mem _)
  have cy : chkD (L[i+1]) = 0 := hck _ (List.getElem_mem _)
  have ax : In64 (L[i]).A := hL.a _ (List.getElem_mem _)
  have ay : In64 (L[i+1]).A := hL.a _ (List.getElem_mem _)
  have ox := opAt_get L i (by omega)
  have oy := opAt_get L (i+1) hi
  have two : ∀ I : List InsD, (L[i+1]).op ≠ 11 → Sk (L[i]) → Sk (L[i+1]) → (∀ d ∈ I, chkD d = 0 ∧ Sk d) → I.length < 2 → (∀ d ∈ I, In64 d.A) → Res L i 2 I := fun I h11 sx sy hI hl hA => by
    have : i + 1 ≠ L.length - 1 := fun e => h11 (by rw [← oy, e]; exact hlast)
    refine res_here hL i 2 I (by omega) (d := 0) (s := 0) ?_ (Pc.skips hI) (Nat.le_refl _) (Nat.le_refl _) hl hA
    rw [sgI_two L i hi]
    exact Pc.skips fun d hd => by
      rcases List.mem_cons.1 hd with rfl | hd
      · exact ⟨cx, sx⟩
      · obtain rfl := List.mem_singleton.1 hd
        exact ⟨cy, sy⟩
  have one : ∀ d : InsD, chkD d = 0 → Sk d → ∀ e ∈ [d], chkD e = 0 ∧ Sk e := fun d h1 h2 e he => by obtain rfl := List.mem_singleton.1 he; exact ⟨h1, h2⟩
  have oneA : ∀ d : InsD, In64 d.A → ∀ e ∈ [d], In64 e.A := fun d h1 e he => by obtain rfl := List.mem_singleton.1 he; exact h1
  have nil : ∀ e ∈ ([] : List InsD), chkD e = 0 ∧ Sk e := fun e he => by cases he
  have nilA : ∀ e ∈ ([] : List InsD), In64 e.A := fun e he => by cases he
  unfold chgs at h
  rw [hx, hy] at h
  simp only [List.mem_cons, List.not_mem_nil, or_false] at h
  rcases h with h | h | h | h | h | h | h | h | h | h | h
  · unfold chg0 at h
    split at h
    · rename_i e
      simp only [Option.some.injEq, Prod.mk.injEq] at h
      obtain ⟨rfl, rfl⟩ := h
      refine res_here hL i 1 [] (by omega) (d := 0) (s := 0) ?_ Pc.nil (Nat.le_refl _) (Nat.le_refl _) (by simp) nilA
      rw [sgI_one L i (by omega)]
      exact Pc.skip cx (sk_of (by omega))
    · cases h
  · unfold chg1 at h
    split at h
    · rename_i e
      obtain ⟨e1, e2, e3⟩ := e
      simp only [Option.some.injEq, Prod.mk.injEq] at h
      obtain ⟨rfl, rfl⟩ := h
      have e1' := isC_op e1
      have e3' := isOne_op e3
      have hf := oneP_fit (L[i+1]).op (L[i]).A ax
      have hr := cOf_range ((pOut (L[i+1]).op).getD 0 0)
      refine two _ (by omega) (sk_of (by omega)) (sk_of (by omega)) (one _ ?_ (sk_mk (by omega))) (by simp) (oneA _ hf.1)
      refine chk_const _ _ fun hk => hf.2 ?_
      rw [isOne_out _ e3] at hk
      exact hk
    · cases h
  · unfold chg2 at h
    split at h
    · rename_i e
      obtain ⟨e1, e2, e3, e4⟩ := e
      simp only [Option.some.injEq, Prod.mk.injEq] at h
      obtain ⟨rfl, rfl⟩ := h
      have e1' := isC_op e1
      have e2' := isC_op e2
      have h1 : i + 1 ≠ L.length - 1 := fun e => by rw [← e, oy] at hlast; omega
      have hi2 : i + 2 < L.length := by omega
      have hz : L[i+2]! = L[i+2] := getElem!_pos L (i+2) hi2
      rw [hz] at e3 e4 ⊢
      have cz : chkD (L[i+2]) = 0 := hck _ (List.getElem_mem _)
      have oz := opAt_get L (i+2) hi2
      have e5 := twoV_two _ _ _ e4
      have e5' := isTwo_op e5
      have h2 : i + 2 ≠ L.length - 1 := fun e => by rw [← e, oz] at hlast; omega
      have hf := twoV_fit (L[i+2]).op (L[i]).A (L[i+1]).A
      have hr := cOf_range ((pOut (L[i+2]).op).getD 0 0)
      refine res_here hL i 3 _ (by omega) (d := 0) (s := 0) ?_ (Pc.skips (one _ ?_ (sk_mk (by omega)))) (Nat.le_refl _) (Nat.le_refl _) (by simp) (oneA _ hf.1)
      · rw [sgI_three L i hi2]
        exact Pc.skips fun d hd => by
          rcases List.mem_cons.1 hd with rfl | hd
          · exact ⟨cx, sk_of (by omega)⟩
          · rcases List.mem_cons.1 hd with rfl | hd
            · exact ⟨cy, sk_of (by omega)⟩
            · obtain rfl := List.mem_singleton.1 hd
              exact ⟨cz, sk_of (by omega)⟩
      · refine chk_const _ _ fun hk => hf.2 e5 ?_
        rw [isTwo_out _ e5] at hk
        exact hk
    · cases h
  · unfold chg3 at h
    split at h
    · rename_i e
      simp only [Option.some.injEq, Prod.mk.injEq] at h
      obtain ⟨rfl, rfl⟩ := h
      exact two _ (by omega) (sk_of (by omega)) (sk_of (by omega)) nil (by simp) nilA
    · cases h
  · unfold chg4 at h
    split at h
    · rename_i e
      split at h
      all_goals
        simp only [Option.some.injEq, Prod.mk.injEq] at h
        obtain ⟨rfl, rfl⟩ := h
      · exact two _ (by omega) (sk_of (by omega)) (sk_of (by omega)) nil (by simp) nilA
      · exact two _ (by omega) (sk_of (by omega)) (sk_of (by omega)) (one _ (chk_idx _ cy 12 (by rw [e.2]; decide) (by decide)) (sk_mk (by omega))) (by simp) (oneA _ ay)
    · cases h
  · unfold chg5 at h
    split at h
    · rename_i e
      obtain ⟨e1, e2, e3⟩ := e
      simp only [Option.some.injEq, Prod.mk.injEq] at h
      obtain ⟨rfl, rfl⟩ := h
      have sx : Sk (L[i]) := sk_of (by omega)
      have px := Pc.skip cx sx
      have hat := fine_at hL (i + 1) hi (by rw [oy]; exact e3) (by rw [oy]; exact e2)
      have done : ∀ (j d s : Nat), i + 1 < j → j < L.length → Pc (sgI L (i + 1) j) d s → sizeE (matchOf L).2.1 (i + 1) = j - (i + 1) → Res L i (1 + sizeE (matchOf L).2.1 (i + 1)) [L[i]] := fun j d s h1 h2 hp he => by
        rw [he]
        refine res_here hL i (1 + (j - (i + 1))) [L[i]] (by omega) (d := d) (s := s) ?_ px (by omega) (by omega) (by simp; omega) (oneA _ ax)
        rw [show i + (1 + (j - (i + 1))) = j by omega, ← sgI_cat L i (i + 1) j (by omega) (by omega), sgI_one L i (by omega)]
        have := px.app hp
        rw [show max 0 d = d by omega, show 0 + s = s by omega] at this
        exact this
      cases hat with
      | one o e =>
        have h1 : i + 1 ≠ L.length - 1 := fun e => by rw [← e, oy] at hlast; omega
        refine done (i + 2) 0 0 (by omega) (by omega) ?_ (by unfold sizeE; rw [e, if_pos (by omega)]; omega)
        rw [sgI_one L (i + 1) hi]
        rw [oy] at o
        exact Pc.skip cy ⟨o, e3, e2⟩
      | block q d s h hq o oq e r =>
        rw [oy] at o
        rw [opAt_get L q (by omega)] at oq
        refine done (q + 1) _ _ (by omega) (by omega) (by
          rw [sgI_block L (i + 1) q h (by omega)]
          exact Pc.block cy (hck _ (List.getElem_mem _)) (by unfold isO; omega) oq (seg_pc hck r)) (by unfold sizeE; rw [e, if_neg (by omega)]; omega)
      | turn t q d s d2 s2 h ht hq o ot oq e te r r2 =>
        rw [oy] at o
        rw [opAt_get L q (by omega)] at oq
        rw [opAt_get L t (by omega)] at ot
        refine done (q + 1) _ _ (by omega) (by omega) (by
          rw [sgI_turn L (i + 1) t q h ht (by omega)]
          exact Pc.turn cy (hck _ (List.getElem_mem _)) (hck _ (List.getElem_mem _)) o ot oq (seg_pc hck r) (seg_pc hck r2)) (by unfold sizeE; rw [e, if_neg (by omega)]; omega)
    · cases h
  · unfold chg6 at h
    split at h
    · rename_i e
      simp only [Option.some.injEq, Prod.mk.injEq] at h
      obtain ⟨rfl, rfl⟩ := h
      exact two _ (by omega) (sk_of (by omega)) (sk_of (by omega)) (one _ (chk_idx _ cx 34 (by rw [e.1]; decide) (by decide)) (sk_mk (by omega))) (by simp) (oneA _ ax)
    · cases h
  · unfold chg7 at h
    split at h
    · rename_i e
      simp only [Option.some.injEq] at h
      have px := Pc.skip cx (sk_of (by omega))
      have cb : chkD (mkD 2 (L[i+1]).A) = 0 := chk_blk _ cy 2 (by rw [e.2]; decide) (by decide)
      have o2 : isO (mkD 2 (L[i+1]).A).op := Or.inl rfl
      have hat := fine_at hL (i + 1) hi (by rw [oy]; omega) (by rw [oy]; omega)
      cases hat with
      | one o _ => rw [oy, e.2] at o; exact absurd (Or.inr (Or.inr rfl)) o
      | block q d s h' hq o oq e1 r =>
        rw [oy, e.2] at o
        have t : (matchOf L).2.2.getD (i + 1) 0 = -1 := by omega
        rw [opAt_get L q (by omega)] at oq
        have cq : chkD (L[q]) = 0 := hck _ (List.getElem_mem _)
        have pr := seg_pc hck r
        have pX : Pc (sgI L i (q + 1)) (max 0 (1 + d)) (0 + (1 + s)) := by
          rw [← sgI_cat L i (i + 1) (q + 1) (by omega) (by omega), sgI_one L i (by omega), sgI_block L (i + 1) q h' (by omega)]
          exact px.app (Pc.block cy cq (by rw [e.2]; exact Or.inr (Or.inr rfl)) oq pr)
        rw [e1, t] at h
        unfold ifV at h
        rw [if_neg (show ¬ (i : Int) < -1 by omega), if_neg (show ¬ (i : Int) < -1 by omega)] at h
        split at h
        all_goals
          simp only [Prod.mk.injEq] at h
          obtain ⟨rfl, rfl⟩ := h
        · refine res_of hL i 2 (q + 1) _ (by omega) (by omega) (by omega) pX (d2 := 1 + d) (s2 := 1 + s) ?_ (by omega) (by omega) (by simp) (oneA _ ay)
          rw [← sgI_cat L (i + 2) q (q + 1) (by omega) (by omega), sgI_one L q (by omega)]
          exact Pc.block cb cq o2 oq pr
        · rw [show (q : Int).toNat + 1 - i = q + 1 - i by omega]
          exact res_here hL i (q + 1 - i) [] (by omega) (by rw [show i + (q + 1 - i) = q + 1 by omega]; exact pX) Pc.nil (by omega) (by omega) (by simp; omega) nilA
      | turn t q d s d2 s2 h' ht hq o ot oq e1 te r r2 =>
        rw [opAt_get L q (by omega)] at oq
        rw [opAt_get L t (by omega)] at ot
        have cq : chkD (L[q]) = 0 := hck _ (List.getElem_mem _)
        have ct : chkD (L[t]) = 0 := hck _ (List.getElem_mem _)
        have pr := seg_pc hck r
        have pr2 := seg_pc hck r2
        have pX : Pc (sgI L i (q + 1)) (max 0 (max (1 + d) (1 + d2))) (0 + (1 + s + s2)) := by
          rw [← sgI_cat L i (i + 1) (q + 1) (by omega) (by omega), sgI_one L i (by omega), sgI_turn L (i + 1) t q h' ht (by omega)]
          exact px.app (Pc.turn cy ct cq e.2 ot oq pr pr2)
        rw [e1, te] at h
        unfold ifV at h
        rw [if_pos (show (i : Int) < t by omega), if_pos (show (i : Int) < t by omega)] at h
        split at h
        all_goals
          simp only [Prod.mk.injEq] at h
          obtain ⟨rfl, rfl⟩ := h
        · rw [show (q : Int).toNat - i = q - i by omega, show (t : Int).toNat = t by omega]
          refine res_of hL i (q - i) (q + 1) _ (by omega) (by omega) (by omega) pX (d2 := 1 + d) (s2 := 1 + s) ?_ (by omega) (by omega) (by simp [sgI_len L (i + 2) t (by omega)]; omega) ?_
          · rw [show i + (q - i) = q by omega, sgI_one L q (by omega)]
            exact Pc.block cb cq o2 oq pr
          · intro d hd
            rcases List.mem_cons.1 hd with rfl | hd
            · exact ay
            · exact hL.a d (List.drop_subset _ _ (List.take_subset _ _ hd))
        · rw [show (t : Int).toNat + 1 - i = t + 1 - i by omega]
          refine res_of hL i (t + 1 - i) (q + 1) _ (by omega) (by omega) (by omega) pX (d2 := 1 + d2) (s2 := 1 + s2) ?_ (by omega) (by omega) (by simp; omega) (oneA _ ay)
          rw [show i + (t + 1 - i) = t + 1 by omega, ← sgI_cat L (t + 1) q (q + 1) (by omega) (by omega), sgI_one L q (by omega)]
          exact Pc.block cb cq o2 oq pr2
    · cases h
  · unfold chg8 at h
    split at h
    · rename_i e
      simp only [Option.some.injEq, Prod.mk.injEq] at h
      obtain ⟨rfl, rfl⟩ := h
      have h1 : i + 1 ≠ L.length - 1 := by
        intro e'
        have hat := fine_at hL i (by omega) (by rw [ox]; omega) (by rw [ox]; omega)
        cases hat with
        | one o _ => rw [ox] at o; exact o (by unfold isO; omega)
        | block q d s h hq => omega
        | turn t q d s d2 s2 h ht hq => omega
      refine res_here hL i 2 [] (by omega) (d := 1 + 0) (s := 1 + 0) ?_ Pc.nil (by omega) (by omega) (by simp) nilA
      rw [sgI_two L i hi]
      exact Pc.block cx cy (by unfold isO; omega) e.2.2 Pc.nil
    · cases h
  · unfold chg9 at h
    split at h
    · rename_i e
      simp only [Option.some.injEq, Prod.mk.injEq] at h
      obtain ⟨rfl, rfl⟩ := h
      exact two _ (by omega) (sk_of (by omega)) (sk_of (by omega)) (one _ (chk_idx _ cx 33 (by rw [e.1]; decide) (by decide)) (sk_mk (by omega))) (by simp) (oneA _ ax)
    · cases h
  · unfold chg10 at h
    split at h
    · rename_i e
      simp only [Option.some.injEq, Prod.mk.injEq] at h
      obtain ⟨rfl, rfl⟩ := h
      exact two _ (by omega) (sk_of (by omega)) (sk_of (by omega)) (one _ (by decide) (sk_mk (by omega))) (by simp) (oneA _ (by unfold In64; decide))
    · cases h
end Go.Proofs.YtkceplamaocmmaaGreatDoor
