/-
  Folding: until no rule applies.
-/
import Derived.Test.YtkceplamaocmmaaDoorFD10
namespace Go.Proofs.YtkceplamaocmmaaDoor
open Go.RowKit
set_option linter.unusedVariables false

/-- What becomes of a body. -/
inductive Folds : List InsD → List InsD → Prop
  | done (L : List InsD) (h : fstC L = none) : Folds L L
  | step (L : List InsD) (i k : Nat) (I M : List InsD) (h : fstC L = some (i, k, I)) (r : Folds (nextL L i k I) M) : Folds L M
theorem Folds.one {L M N : List InsD} (h : Folds L M) (h2 : Folds L N) : M = N := by
  induction h with
  | done L h =>
    cases h2 with
    | done _ _ => rfl
    | step _ i k I _ h' r => rw [h] at h'; cases h'
  | step L i k I M h r ih =>
    cases h2 with
    | done _ h' => rw [h] at h'; cases h'
    | step _ i' k' I' _ h' r' =>
      rw [h] at h'
      simp only [Option.some.injEq, Prod.mk.injEq] at h'
      obtain ⟨rfl, rfl, rfl⟩ := h'
      exact ih r'
theorem NdLe.refl (L : List InsD) : NdLe L L := fun o m a _ => ⟨Int.le_refl _, Int.le_refl _⟩
theorem NdLe.trans {A B C : List InsD} (h : NdLe A B) (h2 : NdLe B C) : NdLe A C := fun o m a hm => ⟨Int.le_trans (h o m a hm).1 (h2 o m a hm).1, Int.le_trans (h o m a hm).2 (h2 o m a hm).2⟩
theorem fstC_res {L : List InsD} (hL : Fine L) {i k : Nat} {I : List InsD} (h : fstC L = some (i, k, I)) : i + 1 < L.length ∧ Res L i k I := by
  obtain ⟨_, _, _, hpos⟩ := nChk_ok L hL.chk
  obtain ⟨h1, h2, h3⟩ := fstFrom_some L (L.length - 1) 0 i (k, I) h
  have hi : i + 1 < L.length := by omega
  exact ⟨hi, chg_res hL i hi k I (fstS_mem _ _ h3)⟩
set_option maxHeartbeats 8000000 in
set_option maxRecDepth 1000000 in
theorem fjoin (b f cap m i k e X : Nat) (M I : List InsD) (oI : Option Addr) (nI cI : Nat) (w W : World) (t : TypeId) (hM : M.length = m) (hm : m ≤ 200) (h : LD w (some ⟨b, f, none⟩) M) (hI : LD w oI I) (hnI : I.length = nI) (hn2 : nI ≤ 200) (hi : i ≤ m) (hk : i + k ≤ m) (he : e = i + k) (hnX : W.heap[X]? = some (.cells #[.slice (some ⟨b, f, none⟩) i cap, .slice oI nI cI, .slice (some ⟨b, f + e * 4, none⟩) (m - e) (cap - e)] t (0, 0))) (bA : Below w.heap.size w W) :
    Calls Tryd.prog 14 #[.slice (some ⟨X, 0, none⟩) 3 3] W fun r w' => ∃ (o2 : Option Addr) (cap2 : Nat), r = .returned (.slice o2 (nextL M i k I).length cap2) ∧ LD w' o2 (nextL M i k I) ∧ (nextL M i k I).length ≤ cap2 ∧ cap2 ≤ 9223372036854775807 ∧ Below w.heap.size w w' := by
  subst he
  have h1 := h.part 0 i (by omega)
  rw [List.drop_zero, show f + 0 * 4 = f by omega] at h1
  have h2 := h.part (i + k) (m - (i + k)) (by omega)
  rw [List.take_of_length_le (by rw [List.length_drop]; omega)] at h2
  have l1 : (M.take i).length = i := by rw [List.length_take]; omega
  have l2 : (M.drop (i + k)).length = m - (i + k) := by rw [List.length_drop]; omega
  have hC := fconcat X 3 (fun j => if j = 0 then [] else if j = 1 then M.take i else if j = 2 then M.take i ++ I else M.take i ++ I ++ M.drop (i + k)) W (by omega) (some_lt hnX) rfl (fun j hj => by
    obtain rfl | rfl | rfl : j = 0 ∨ j = 1 ∨ j = 2 := by omega
    · exact ⟨some ⟨b, f, none⟩, i, cap, M.take i, fcell (v := .slice (some ⟨b, f, none⟩) i cap) hnX 0 rfl, h1.below bA, l1, by omega, rfl, by show (M.take i).length ≤ 1200; omega⟩
    · exact ⟨oI, nI, cI, I, fcell (v := .slice oI nI cI) hnX 1 rfl, hI.below bA, hnI, by omega, rfl, by show (M.take i ++ I).length ≤ 1200; rw [List.length_append]; omega⟩
    · exact ⟨some ⟨b, f + (i + k) * 4, none⟩, m - (i + k), cap - (i + k), M.drop (i + k), fcell (v := .slice (some ⟨b, f + (i + k) * 4, none⟩) (m - (i + k)) (cap - (i + k))) hnX 2 rfl, h2.below bA, l2, by omega, rfl, by show (M.take i ++ I ++ M.drop (i + k)).length ≤ 1200; rw [List.length_append, List.length_append]; omega⟩)
  refine hC.mono ?_
  rintro r w3 ⟨o3, c3, rfl, hown, b3⟩
  have h3 : Below w.heap.size w w3 := bA.trans (b3.mono bA.size)
  have hok : ∀ d ∈ nextL M i k I, d.ok w3 := fun d hd => by
    unfold nextL at hd
    rcases List.mem_append.1 hd with hd | hd
    · rcases List.mem_append.1 hd with hd | hd
      · exact (h.1 d (List.take_subset _ _ hd)).below h3
      · exact (hI.1 d hd).below h3
    · exact (h.1 d (List.drop_subset _ _ hd)).below h3
  obtain ⟨hld, hc1, hc2⟩ := ld_own (L := nextL M i k I) hown rfl hok
  exact ⟨o3, c3, rfl, hld, hc1, by unfold maxLen at hc2; omega, h3⟩
set_option maxHeartbeats 8000000 in
set_option maxRecDepth 1000000 in
theorem ffolded (o : Option Addr) (cap : Nat) (L : List InsD) (w : World) (h : LD w o L) (hcap : L.length ≤ cap ∧ cap ≤ 9223372036854775807) (hL : Fine L) (hF : FA w) :
    Calls Tryd.prog 8 #[.slice o L.length cap] w fun r w' => ∃ (M : List InsD) (o' : Option Addr) (cap' : Nat), r = .returned (.slice o' M.length cap') ∧ LD w' o' M ∧ (M.length ≤ cap' ∧ cap' ≤ 9223372036854775807) ∧ Folds L M ∧ Fine M ∧ M.length ≤ L.length ∧ NdLe M L ∧ Below w.heap.size w w' := by
  have hpos := (nChk_ok L hL.chk).2.2.2
  have H0 : Hid (LD w o L ∧ Fine L) := ⟨h, hL⟩
  have HFF : Hid (FA w) := hF
  obtain ⟨n, hn⟩ : ∃ n, n = L.length := ⟨_, rfl⟩
  rw [← hn] at hcap ⊢
  have HN : Hid (L.length = n) := hn.symm
  clear h hL hF hn
  go_enter Tryd.func8, Tryd.ntmps8
  go_wp2
  go_loopw [0] (fun lv wr => ∃ (M : List InsD) (o' : Option Addr) (m cap' : Nat), lv = .slice o' m cap' ∧ m ≤ cap' ∧ cap' ≤ 9223372036854775807 ∧ Hid (M.length = m) ∧ Hid (LD wr o' M ∧ Fine M ∧ M.length ≤ L.length ∧ NdLe M L ∧ (∀ N, Folds M N → Folds L N)) ∧ Hid (Below w.heap.size w wr)) (fun lv _ => (match lv with | .slice _ m _ => m | _ => 0))
  case atStart => exact ⟨L, o, n, cap, rfl, hcap.1, hcap.2, HN, ⟨H0.out.1, H0.out.2, Nat.le_refl _, NdLe.refl _, fun N hN => hN⟩, Below.refl _ _⟩
  case round =>
    obtain ⟨M, o', m, cap', rfl, hc1, hc2, HM, HI, HB⟩ := hrel
    obtain ⟨hld, hfine, hle, hnd, hfold⟩ := HI.out
    have hm200 := (nChk_ok M hfine.chk).1
    rw [HM.out] at hm200
    have hf := ffirst o' cap' M wr hld (by rw [HM.out]; exact ⟨hc1, hc2⟩) hfine (HFF.out.under HB.out)
    rw [HM.out] at hf
    have HFI : Hid (type_of% hf) := hf
    clear hld hfine hle hnd hfold hf
    go_wp2_with fail
    refine HFI.out.mono ?_
    intro r w2 hco
    cases hc : fstC M with
    | none =>
      rw [hc] at hco
      obtain ⟨b2, rfl⟩ := hco
      have HE : Hid (∃ (M_1 : List InsD) (o'_1 : Option Addr) (cap'_1 : Nat), Ending.returned (.slice o' m cap') = Ending.returned (.slice o'_1 M_1.length cap'_1) ∧ LD w2 o'_1 M_1 ∧ (M_1.length ≤ cap'_1 ∧ cap'_1 ≤ 9223372036854775807) ∧ Folds L M_1 ∧ Fine M_1 ∧ M_1.length ≤ n ∧ NdLe M_1 L ∧ Below w.heap.size w w2) :=
        ⟨M, o', cap', by rw [HM.out], HI.out.1.below b2, by rw [HM.out]; exact ⟨hc1, hc2⟩, HI.out.2.2.2.2 M (.done M hc), HI.out.2.1, by rw [← HN.out]; exact HI.out.2.2.1, HI.out.2.2.2.1, HB.out.trans (b2.mono HB.out.size)⟩
      clear b2 hc HFI HI
      go_wp2
      go_ret
      exact HE.out
    | some q =>
      obtain ⟨i, k, I⟩ := q
      rw [hc] at hco
      obtain ⟨b2, P, oI, cI, rfl, hP, hP0, hP1, hLI, hI1, hI2⟩ := hco
      simp only at hP0 hP1 hLI hI1 hI2
      obtain ⟨hi1, hres⟩ := fstC_res HI.out.2.1 hc
      have hlt := hres.lt
      rw [HM.out] at hlt hi1
      obtain ⟨b, f, rfl⟩ : ∃ b f, o' = some ⟨b, f, none⟩ := by
        rcases HI.out.1.2 with h0 | ⟨b, f, e, _⟩
        · have := HM.out
          rw [h0] at this
          simp at this
          omega
        · exact ⟨b, f, e⟩
      have hshort := hres.short
      rw [HM.out] at hshort
      have hIlen : I.length ≤ 200 := by
        have : (nextL M i k I).length ≥ I.length := by unfold nextL; simp; omega
        omega
      obtain ⟨e, he, he2⟩ : ∃ e, e = ((i : Int) + (k : Int)).toNat ∧ e = i + k := ⟨_, rfl, by omega⟩
      have HJ : Hid (∀ (X : Nat) (W : World) (t : TypeId), W.heap[X]? = some (.cells #[.slice (some ⟨b, f, none⟩) i cap', .slice oI I.length cI, .slice (some ⟨b, f + e * 4, none⟩) (m - e) (cap' - e)] t (0, 0)) → Below w2.heap.size w2 W → _) := fun X W t hx bb => fjoin b f cap' m i k e X M I oI I.length cI w2 W t HM.out hm200 (HI.out.1.below b2) hLI rfl hIlen (by omega) (by omega) he2 hx bb
      rw [he] at HJ
      have HC : Hid (∀ W, Below w2.heap.size w2 W → W.cell? ⟨P, 0, none⟩ = some (.int .i64 (k : Int)) ∧ W.cell? ⟨P, 1, none⟩ = some (.slice oI I.length cI)) := fun W bb => ⟨(bb.cell (p := ⟨P, 0, none⟩) hP).trans hP0, (bb.cell (p := ⟨P, 1, none⟩) hP).trans hP1⟩
      have HNX : Hid (Fine (nextL M i k I) ∧ (nextL M i k I).length ≤ L.length ∧ NdLe (nextL M i k I) L ∧ ∀ N, Folds (nextL M i k I) N → Folds L N) := ⟨hres.fine, Nat.le_trans (Nat.le_of_lt hres.short) HI.out.2.2.1, hres.nd.trans HI.out.2.2.2.1, fun N hN => HI.out.2.2.2.2 N (.step M i k I N hc hN)⟩
      have HB2 : Hid (Below w.heap.size w w2) := HB.out.trans (b2.mono HB.out.size)
      obtain ⟨X, hX⟩ : ∃ X, X = nextL M i k I := ⟨_, rfl⟩
      rw [← hX] at HJ HNX hshort
      generalize I.length = nI at *
      have hk0 : (0 : Int) ≤ (i : Int) := by omega
      have hk1 : (i : Int) ≤ (cap' : Int) := by omega
      have hk2 : (0 : Int) ≤ (i : Int) + (k : Int) := by omega
      have hk3 : (i : Int) + (k : Int) ≤ (m : Int) := by omega
      have hk4 : ¬ cap' = ((i : Int) + (k : Int)).toNat := by omega
      have hw1 : IntKind.i64.wrap ((i : Int) + (k : Int)) = (i : Int) + (k : Int) := by rw [IntKind.wrap_i64]; omega
      clear b2 hc HFI HI hLI hres hX
      go_wp2_with fail
      go_region_held3 (fun w' => w'.cell? ⟨P, 0, none⟩ = some (.int .i64 (k : Int)) ∧ w'.cell? ⟨P, 1, none⟩ = some (.slice oI nI cI)) (first | (exact HC.out _ fch) | go_keep) ((go_at_call 14; refine (HJ.out _ _ _ (by exact new_block _ _) fch).mono ?_; rintro r w4 ⟨o4, c4, rfl, hl4, hc4, hm4, b4⟩; have HL4 : Hid (type_of% hl4) := hl4; have HB4 : Hid (type_of% b4) := b4; clear hl4 b4))
      all_goals
        go_wp2
        go_roundw
        case rel => exact ⟨X, o4, X.length, c4, rfl, hc4, hm4, rfl, ⟨HL4.out, HNX.out⟩, HB2.out.trans (HB4.out.mono HB2.out.size)⟩
        case measure => exact hshort
end Go.Proofs.YtkceplamaocmmaaDoor
