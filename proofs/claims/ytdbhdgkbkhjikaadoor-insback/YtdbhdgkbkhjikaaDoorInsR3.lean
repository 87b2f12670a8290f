/-
  What the reader's own numbers does.
-/
import Derived.Test.YtdbhdgkbkhjikaaDoorInsR2
import Derived.OwnWalk
namespace Go.Proofs.YtdbhdgkbkhjikaaDoor
open Go.RowKit

/-- So many numbers are taken. -/
def mNumsF : Nat → List Int → Int → List Int × List Int × Int
  | 0, l, a => ([], l, a)
  | n + 1, l, a => ((mNum l a).1 :: (mNumsF n (mNum l a).2.1 (mNum l a).2.2).1, (mNumsF n (mNum l a).2.1 (mNum l a).2.2).2)
theorem mNumsF_len : ∀ (n : Nat) (l : List Int) (a : Int), (mNumsF n l a).1.length = n
  | 0, _, _ => rfl
  | n + 1, l, a => by rw [mNumsF, List.length_cons, mNumsF_len n]
theorem ownsRow_chg {w w' : World} {P B g n : Nat} {e : TypeId} {xs : List Value} (h : w.ownsRow B e 1 (.slice (some ⟨g, 0, none⟩) n n) n xs) (hc : Chg P w w') (hg : g ≠ P) : w'.ownsRow B e 1 (.slice (some ⟨g, 0, none⟩) n n) n xs := by
  have hlt := (h.lt g rfl).2
  obtain ⟨h1, h2⟩ := h
  refine ⟨h1, ?_⟩
  rcases h2 with ⟨h, _⟩ | ⟨g', cap, cur, e1, hb, hh, r⟩
  · cases h
  · simp only [Value.slice.injEq, Option.some.injEq, Addr.mk.injEq, and_true] at e1
    obtain ⟨rfl, _, _⟩ := e1
    refine Or.inr ⟨g, cap, cur, ?_, hb, ?_, r⟩
    · simp; omega
    · rw [hc.block g hlt hg, hh]
theorem set_step (A Z : List Value) (k : Nat) (y : Value) (hA : A.length = k) (hk : k < Z.length) : (A ++ Z.drop k).set k y = (A ++ [y]) ++ Z.drop (k + 1) := by
  rw [List.set_append_right _ _ (by omega), hA, Nat.sub_self, List.drop_eq_getElem_cons hk, List.set_cons_zero, List.append_assoc]
  rfl
theorem Tryd.infoI64 : (Tryd.prog.info? 2).map (fun i => (i.zero, i.size, i.bytes)) = some (some (.int .i64 0), 1, 8) := by kernel_rfl
set_option maxHeartbeats 2000000 in
set_option maxRecDepth 1000000 in
theorem numbers_few (P n : Nat) (l1 X LF : List Int) (a1 AF : Int) (hn : n ≤ 16) (hF : mNumsF n l1 a1 = (X, LF, AF)) (w : World) (hP : P < w.heap.size) (HC : Hid (Calls Tryd.prog 62 #[.pointer (some ⟨P, 0, none⟩)] w fun r w' => r = .returned (.int .i64 (n : Int)) ∧ RL w' P l1 a1 ∧ Chg P w w')) :
    Calls Tryd.prog 63 #[.pointer (some ⟨P, 0, none⟩)] w fun r w' => ∃ g, r = .returned (.slice (some ⟨g, 0, none⟩) n n) ∧ w'.ownsRow w.heap.size 2 1 (.slice (some ⟨g, 0, none⟩) n n) n (X.map (Value.int .i64)) ∧ RL w' P LF AF ∧ Chg P w w' := by
  obtain ⟨i0, hi, hz0, hz1, hz2⟩ := info_parts Tryd.infoI64
  have HF : Hid (mNumsF n l1 a1 = (X, LF, AF)) := hF
  clear hF
  go_enter Tryd.func63, Tryd.ntmps63
  go_wp2_with fail
  refine HC.out.mono ?_
  rintro e w1 ⟨rfl, r1, c1⟩
  have HR1 : Hid (RL w1 P l1 a1) := r1
  have HC1 : Hid (Chg P w w1) := c1
  have hs1 := c1.size
  clear r1 c1 HC
  go_wp2_with (at_make; refine wpList_make_full _ rfl _ _ 22 rfl w.heap.size 2 i0 (.int .i64 0) 1 Tryd.underlying22 hi hz0 hz1 .i64 .i64 (n : Int) (n : Int) n rfl rfl rfl rfl ?b2 ?b3 hs1 ?_)
  case b2 => rw [hz2]; omega
  case b3 => unfold maxLen; omega
  intro w2 hown hgrow
  obtain ⟨Z, hlz2, hownZ⟩ : ∃ Z : List Value, Z.length = n ∧ w2.ownsRow w.heap.size 2 1 (.slice (some ⟨w1.heap.size, 0, none⟩) n n) n Z := ⟨_, by have := hown.1; simpa using this, hown⟩
  clear hown
  have hown := hownZ
  clear hownZ
  have hb12 : Below w1.heap.size w1 w2 := (Below.refl _ _).grown hgrow (Nat.le_refl _) (fun j hj => by cases hj)
  have hgP : w1.heap.size ≠ P := by omega
  have HR2 : Hid (RL w2 P l1 a1) := HR1.out.below hb12
  have HC2 : Hid (Chg P w w2) := HC1.out.trans (Chg.of_below hb12)
  clear hgrow hb12 HR1 HC1
  generalize w1.heap.size = g at hown hgP hs1
  clear hz2
  have HLZ : Hid (Z.length = n) := hlz2
  clear hlz2
  go_wp2
  go_loopw [16] (fun i wr => ∃ k : Nat, ∃ ys lk xs : List Int, ∃ ak : Int, i = .int .i64 k ∧ k ≤ n ∧ Hid (ys.length = k ∧ mNumsF (n - k) lk ak = (xs, LF, AF) ∧ X = ys ++ xs) ∧ wr.ownsRow w.heap.size 2 1 (.slice (some ⟨g, 0, none⟩) n n) n (ys.map (Value.int .i64) ++ Z.drop k) ∧ Hid (RL wr P lk ak) ∧ Hid (Chg P w wr)) (fun i _ => n - (intOf i).toNat)
  case atStart => exact ⟨0, [], l1, X, a1, rfl, by omega, ⟨rfl, HF.out, rfl⟩, by simpa using hown, HR2, HC2⟩
  case round =>
    obtain ⟨k, ys, lk, xs, ak, rfl, hk, HI, hq, HRk, HCk⟩ := hrel
    clear hown HR2 HC2 HF
    by_cases hlt : k < n
    · have hki0 : (0 : Int) ≤ (k : Int) := by omega
      have hki1 : (k : Int) < (n : Int) := by omega
      have HN : Hid (type_of% (number_any P lk ak wr HRk.out)) := number_any P lk ak wr HRk.out
      have HQ : Hid (type_of% hq) := hq
      clear hq
      go_wp2_with fail
      refine HN.out.mono ?_
      rintro e w3 ⟨rfl, r3, c3⟩
      have hq3 := ownsRow_chg HQ.out c3 hgP
      have hst := (hq3.stored k (.int .i64 (mNum lk ak).1)).1
      have hcell : w3.cell? ⟨g, k, none⟩ = some (Z.getD k (.int .i64 0)) := by
        rw [hq3.cellAt k (by omega), List.getElem?_append_right (by rw [List.length_map, HI.out.1]; exact Nat.le_refl _), List.length_map, HI.out.1, Nat.sub_self, List.getElem?_drop, Nat.add_zero, List.getElem?_eq_getElem (by rw [HLZ.out]; exact hlt), List.getD_eq_getElem?_getD, List.getElem?_eq_getElem (by rw [HLZ.out]; exact hlt)]
        rfl
      have hfz := hq3.frozenAt k
      rw [set_step _ _ _ _ (by rw [List.length_map]; exact HI.out.1) (by rw [HLZ.out]; exact hlt)] at hst
      have HST : Hid (((w3.setCell ⟨g, k, none⟩ (.int .i64 (mNum lk ak).1)).ownsRow w.heap.size 2 1 (.slice (some ⟨g, 0, none⟩) n n) n ((ys ++ [(mNum lk ak).1]).map (Value.int .i64) ++ Z.drop (k + 1)))) := by
        unfold Hid
        rw [List.map_append]
        exact hst
      have hgw : w.heap.size ≤ g := (HQ.out.lt g rfl).1
      have HR4 : Hid (RL (w3.setCell ⟨g, k, none⟩ (.int .i64 (mNum lk ak).1)) P (mNum lk ak).2.1 (mNum lk ak).2.2) := by
        obtain ⟨s, h1, h2, h3⟩ := r3
        refine ⟨s, h1, h2, ?_⟩
        unfold RS at h3 ⊢
        rw [Below.heap_setCell _ _ _ _ (by simpa using hgP.symm)]
        exact h3
      have HC4 : Hid (Chg P w (w3.setCell ⟨g, k, none⟩ (.int .i64 (mNum lk ak).1))) := by
        have h := HCk.out.trans c3
        refine ⟨h.os, h.tape, h.output, by have := h.size; simpa using this, fun i hi hp => ?_⟩
        rw [Below.heap_setCell _ _ _ _ (by simp only; omega)]
        exact h.block i hi hp
      have HI4 : Hid ((ys ++ [(mNum lk ak).1]).length = k + 1 ∧ mNumsF (n - (k + 1)) (mNum lk ak).2.1 (mNum lk ak).2.2 = ((mNumsF (n - (k + 1)) (mNum lk ak).2.1 (mNum lk ak).2.2).1, LF, AF) ∧ X = (ys ++ [(mNum lk ak).1]) ++ (mNumsF (n - (k + 1)) (mNum lk ak).2.1 (mNum lk ak).2.2).1) := by
        obtain ⟨h1, h2, h3⟩ := HI.out
        rw [show n - k = (n - (k + 1)) + 1 by omega, mNumsF] at h2
        simp only [Prod.mk.injEq] at h2
        obtain ⟨e1, e2⟩ := h2
        refine ⟨by rw [List.length_append, h1]; rfl, ?_, ?_⟩
        · rw [← e2]
        · rw [h3, ← e1, List.append_assoc]; rfl
      clear hq3 hst r3 c3 HQ HI HRk HCk HN
      generalize (mNum lk ak).2.1 = l4 at HR4 HI4
      generalize (mNum lk ak).2.2 = a4 at HR4 HI4
      generalize (mNum lk ak).1 = y at HST HR4 HC4 HI4 ⊢
      go_wp2
      go_roundw
      case rel => exact ⟨k + 1, ys ++ [y], l4, _, a4, by go_num, by omega, HI4, HST.out, HR4, HC4⟩
      case measure => simp [intOf]; omega
    · have hkn : k = n := by omega
      subst hkn
      have HO : Hid (wr.ownsRow w.heap.size 2 1 (.slice (some ⟨g, 0, none⟩) k k) k (X.map (Value.int .i64))) := by
        obtain ⟨h1, h2, h3⟩ := HI.out
        rw [Nat.sub_self, mNumsF] at h2
        simp only [Prod.mk.injEq] at h2
        obtain ⟨rfl, _, _⟩ := h2
        rw [List.append_nil] at h3
        subst h3
        rw [List.drop_eq_nil_of_le (by rw [HLZ.out]; exact Nat.le_refl _), List.append_nil] at hq
        exact hq
      have HR : Hid (RL wr P LF AF) := by
        obtain ⟨h1, h2, h3⟩ := HI.out
        rw [Nat.sub_self, mNumsF] at h2
        simp only [Prod.mk.injEq] at h2
        obtain ⟨_, rfl, rfl⟩ := h2
        exact HRk.out
      clear hq
      go_wp2
      go_ret
      exact ⟨g, rfl, HO.out, HR.out, HCk.out⟩
/-- A list of numbers is taken. -/
def mNums (l : List Int) (a : Int) : List Int × List Int × Int := if (mNum l a).1 > 16 then ([], (mNum l a).2.1, fstE (mNum l a).2.2 2) else mNumsF (mNum l a).1.toNat (mNum l a).2.1 (mNum l a).2.2
set_option maxHeartbeats 2000000 in
set_option maxRecDepth 1000000 in
theorem numbers_many (P : Nat) (n : Int) (l1 : List Int) (a1 : Int) (_hn : 16 < n) (w : World) (HC : Hid (Calls Tryd.prog 62 #[.pointer (some ⟨P, 0, none⟩)] w fun r w' => r = .returned (.int .i64 n) ∧ RL w' P l1 a1 ∧ Chg P w w')) :
    Calls Tryd.prog 63 #[.pointer (some ⟨P, 0, none⟩)] w fun r w' => r = .returned (.slice none 0 0) ∧ RL w' P l1 (fstE a1 2) ∧ Chg P w w' := by
  go_enter Tryd.func63, Tryd.ntmps63
  go_wp2_with fail
  refine HC.out.mono ?_
  rintro e w1 ⟨rfl, r1, c1⟩
  go_wp2_with fail
  refine (r1.fail 2).mono ?_
  rintro e w3 ⟨rfl, r3, c3⟩
  go_wp2
  go_ret
  exact ⟨rfl, r3, c1.trans c3⟩
theorem mNum_nonneg (l : List Int) (a : Int) (hl : ∀ b ∈ l, 0 ≤ b ∧ b < 256) : 0 ≤ (mNum l a).1 := by
  have h := (rU_bound 32 l hl).1
  unfold mNum
  split
  · exact h
  · exact Int.le_refl _
/-- A value that is a list of numbers, in new memory. -/
def IsI (w : World) (B : Nat) (v : Value) (xs : List Int) : Prop := (v = .slice none 0 0 ∧ xs = []) ∨ ∃ g, v = .slice (some ⟨g, 0, none⟩) xs.length xs.length ∧ w.ownsRow B 2 1 (.slice (some ⟨g, 0, none⟩) xs.length xs.length) xs.length (xs.map (Value.int .i64))
theorem numbers_any (P : Nat) (l : List Int) (a : Int) (w : World) (h : RL w P l a) :
    Calls Tryd.prog 63 #[.pointer (some ⟨P, 0, none⟩)] w fun r w' => ∃ v, r = .returned v ∧ IsI w' w.heap.size v (mNums l a).1 ∧ RL w' P (mNums l a).2.1 (mNums l a).2.2 ∧ Chg P w w' := by
  have hn := number_any P l a w h
  have hp := mNum_nonneg l a h.byte
  have hP := h.lt
  unfold mNums
  by_cases h16 : (mNum l a).1 > 16
  · rw [if_pos h16]
    refine (numbers_many P _ _ _ h16 w hn).mono ?_
    rintro r w1 ⟨rfl, r1, c1⟩
    exact ⟨_, rfl, Or.inl ⟨rfl, rfl⟩, r1, c1⟩
  · rw [if_neg h16]
    rw [show (mNum l a).1 = (((mNum l a).1.toNat : Nat) : Int) by omega] at hn
    refine (numbers_few P (mNum l a).1.toNat _ _ _ _ _ (by omega) rfl w hP hn).mono ?_
    rintro r w1 ⟨g, rfl, ho, r1, c1⟩
    have hl := mNumsF_len (mNum l a).1.toNat (mNum l a).2.1 (mNum l a).2.2
    refine ⟨_, rfl, Or.inr ⟨g, ?_, ?_⟩, r1, c1⟩
    · rw [hl]
    · rw [hl]; exact ho
end Go.Proofs.YtdbhdgkbkhjikaaDoor
