/-
  Folding, the document's own way: FoldBody.
-/
import Derived.Test.YtkceplamaocmmaaGreatDoorZPK
import Derived.Test.YtkceplamaocmmaaGreatDoorZRMat
set_option maxHeartbeats 8000000
set_option maxRecDepth 1000000
namespace Go.Proofs.YtkceplamaocmmaaGreatDoor
attribute [local instance 10000] inhI
open Go.RowKit
set_option linter.unusedVariables false
theorem rcopyI (o : Option Addr) (cap n : Nat) (L : List InsD) (w : World) (h : LD w o L) (hl : L.length = n) (hn : n ≤ 1000) :
    Calls Tryz.prog 12 #[.slice o n cap] w fun r w' => ∃ (o' : Option Addr) (c' : Nat), r = .returned (.slice o' n c') ∧ w'.ownsRow w.heap.size 34 4 (.slice o' n c') n (cellsOf L) ∧ Below w.heap.size w w' := by
  have HLD : Hid (LD w o L ∧ L.length = n) := ⟨h, hl⟩
  clear h hl
  go_enter Tryz.func12, Tryz.ntmps12
  go_wp2_with (at_builtin; refine fappend_ins rfl _ _ rfl w.heap.size none 0 0 [] rfl (World.ownsRow_nil _ _ _ _) o n cap L rfl HLD.out.1 HLD.out.2 (by omega) (by omega) (Nat.le_refl _) ?_)
  intro o2 c2 w2 ho2 hb2
  have HO : Hid (w2.ownsRow w.heap.size 34 4 (.slice o2 n c2) n (cellsOf L)) := ho2
  have HB : Hid (type_of% hb2) := hb2
  clear ho2 hb2
  go_wp2
  go_ret
  exact ⟨o2, c2, rfl, HO.out, HB.out⟩
theorem fstFrom_all (L : List InsD) : ∀ f i, (∀ j, i ≤ j → j < i + f → chgAt L j = none) → fstFrom L f i = none
  | 0, _, _ => rfl
  | f + 1, i, h => by
    rw [fstFrom, h i (Nat.le_refl _) (by omega)]
    exact fstFrom_all L f (i + 1) (fun j h1 h2 => h j (by omega) (by omega))
theorem rinst_at {M : List InsD} (hM : Fine M) (b f cap m i : Nat) (hm : M.length = m) (hi : i < m) (hcap : m ≤ cap) (hcm : cap ≤ 9223372036854775807) (w : World) (h : LD w (some ⟨b, f, none⟩) M) : ∃ D : Option (Nat × List InsD), (Calls Tryz.prog 11 #[.slice (some ⟨b, f + i * 4, none⟩) (m - i) (cap - i)] w fun r w' => DOut w w' r D) ∧ (D = none → i + 1 < m → chgAt M i = none) ∧ ∀ k I, D = some (k, I) → i + 1 < m ∧ ∃ k' I', chgAt M i = some (k', I') ∧ M.take i ++ I ++ M.drop (i + k) = nextL M i k' I' ∧ i + k < m := by
  have hn := (nChk_ok M hM.chk).1
  have hl := fine_last hM
  by_cases h1 : i + 1 < m
  · obtain ⟨e, hf, hE⟩ := ends_of hM i (by omega)
    have hp := h.part i (m - i) (by omega)
    rw [List.take_of_length_le (by rw [List.length_drop]; omega)] at hp
    obtain ⟨s1, s2⟩ := dV_step hM i (by omega) hE
    refine ⟨dV M i e hf, ?_, fun h0 _ => s1 h0, fun k I h0 => ⟨h1, by rw [← hm]; exact s2 k I h0⟩⟩
    have hd : dV M i e hf = insV (M.drop i) (M[i]!) (M[i+1]!) (M[i+2]!) e hf := if_pos (by omega)
    rw [hd]
    refine rinstead b (f + i * 4) (cap - i) (m - i) (M.drop i) _ _ _ w (by rw [List.length_drop]; omega) (by omega) (by omega) (by omega) (by omega) hp ?_ ?_ ?_ (fun h2 => ?_) e hf (fun ho => ?_)
    · rw [drop_get', Nat.add_zero]
    · rw [drop_get']
    · rw [drop_get']
    · have e1 : i + 1 = M.length - 1 := by omega
      rw [← e1, opAt_get M (i+1) (by omega)] at hl
      rw [getElem!_pos M (i+1) (by omega), hl]
      rfl
    · rw [← hm]; exact hE.up ho
  · have e1 : i = M.length - 1 := by omega
    have hp := h.part i 1 (by omega)
    rw [drop_one M i (by omega)] at hp
    refine ⟨chg0 (M[i]!), ?_, fun _ h0 => absurd h0 h1, fun k I h0 => ?_⟩
    · rw [show m - i = 1 by omega]
      exact rinst_one b (f + i * 4) (cap - i) (M[i]!) w hp
    · rw [← e1, opAt_get M i (by omega)] at hl
      rw [getElem!_pos M i (by omega)] at h0
      unfold chg0 at h0
      rw [hl] at h0
      cases h0
theorem rfold_ok (o : Option Addr) (cap : Nat) (L : List InsD) (w : World) (h : LD w o L) (hcap : L.length ≤ cap ∧ cap ≤ 9223372036854775807) (hL : Fine L) (hM : MaxIn w) :
    Calls Tryz.prog 5 #[.slice o L.length cap] w fun r w' => ∃ (M : List InsD) (o' : Option Addr) (cap' : Nat), r = .returned (.tuple #[.slice o' M.length cap', .int .i64 0]) ∧ LD w' o' M ∧ (M.length ≤ cap' ∧ cap' ≤ 9223372036854775807) ∧ Folds L M ∧ Below w.heap.size w w' := by
  have hpos := (nChk_ok L hL.chk).2.2.2
  have hck := rncheck_any o cap L w h hcap.1 hM
  rw [hL.chk] at hck
  have HCK : Hid (type_of% hck) := hck
  have H0 : Hid (LD w o L ∧ Fine L) := ⟨h, hL⟩
  obtain ⟨n, hn⟩ : ∃ n, n = L.length := ⟨_, rfl⟩
  rw [← hn] at hcap HCK ⊢
  have HN : Hid (L.length = n) := hn.symm
  clear h hL hn hck hM
  go_enter Tryz.func5, Tryz.ntmps5
  go_wp2_with fail
  refine HCK.out.mono ?_
  rintro r w1 ⟨rfl, b1⟩
  have HB1 : Hid (type_of% b1) := b1
  clear b1
  go_wp2
  go_loopw [0, 5] (fun lv iv wr => ∃ (M : List InsD) (o' : Option Addr) (m cap' i : Nat), lv = .slice o' m cap' ∧ iv = .int .i64 (i : Int) ∧ m ≤ cap' ∧ cap' ≤ 9223372036854775807 ∧ i ≤ m ∧ m ≤ 200 ∧ Hid (M.length = m) ∧ Hid (LD wr o' M ∧ Fine M ∧ (∀ N, Folds M N → Folds L N) ∧ ∀ j, j < i → j + 1 < m → chgAt M j = none) ∧ Hid (Below w.heap.size w wr)) (fun lv iv _ => (match lv with | .slice _ m _ => m | _ => 0) * 1000 + ((match lv with | .slice _ m _ => m | _ => 0) - (intOf iv).toNat))
  case atStart => exact ⟨L, o, n, cap, 0, rfl, rfl, hcap.1, hcap.2, by omega, by have := (nChk_ok L H0.out.2.chk).1; rw [HN.out] at this; exact this, HN, ⟨H0.out.1.below HB1.out, H0.out.2, fun N hN => hN, fun j hj => by omega⟩, HB1⟩
  case round =>
    obtain ⟨M, o', m, cap', i, rfl, rfl, hc1, hc2, hi, hm200, HM, HI, HB⟩ := hrel
    by_cases hlt : i < m
    · obtain ⟨b, f, rfl⟩ : ∃ b f, o' = some ⟨b, f, none⟩ := by
        rcases HI.out.1.2 with h0 | ⟨b, f, e, _⟩
        · have := HM.out
          rw [h0] at this
          simp at this
          omega
        · exact ⟨b, f, e⟩
      obtain ⟨D, hD1, hD2, hD3⟩ := rinst_at HI.out.2.1 b f cap' m i HM.out hlt hc1 hc2 wr HI.out.1
      have HD1 : Hid (type_of% hD1) := hD1
      have HD2 : Hid (type_of% hD2) := hD2
      have HD3 : Hid (type_of% hD3) := hD3
      have hi0 : (0 : Int) ≤ (i : Int) := by omega
      have hi1 : (i : Int) ≤ (m : Int) := by omega
      have hi2 : (i : Int) < (m : Int) := by omega
      have hi3 : ¬ cap' = i := by omega
      have hi4 : (i : Int) ≤ (cap' : Int) := by omega
      have hsz := HB.out.size
      clear hD1 hD2 hD3
      go_wp2_with fail
      refine HD1.out.mono ?_
      intro r w2 hd
      cases hDD : D with
      | none =>
        rw [hDD] at hd
        obtain ⟨b2, rfl⟩ := hd
        have HNX : Hid (LD w2 (some ⟨b, f, none⟩) M ∧ Fine M ∧ (∀ N, Folds M N → Folds L N) ∧ ∀ j, j < i + 1 → j + 1 < m → chgAt M j = none) := ⟨HI.out.1.below b2, HI.out.2.1, HI.out.2.2.1, fun j hj hj2 => by
          by_cases e : j = i
          · subst e; exact HD2.out hDD hj2
          · exact HI.out.2.2.2 j (by omega) hj2⟩
        have HB2 : Hid (Below w.heap.size w w2) := HB.out.trans (b2.mono HB.out.size)
        clear b2 HD1 HD2 HD3 hDD
        go_wp2
        go_roundw
        case rel => exact ⟨M, some ⟨b, f, none⟩, m, cap', i + 1, rfl, by go_num, hc1, hc2, by omega, hm200, HM, HNX, HB2⟩
        case measure => simp [intOf]; omega
      | some q =>
        obtain ⟨k, I⟩ := q
        rw [hDD] at hd
        obtain ⟨b2, hk0, oI, cI, rfl, hLI, hI1, hI2⟩ := hd
        simp only at hk0 hLI hI1 hI2
        obtain ⟨hi5, k', I', hch, hnx, hik⟩ := HD3.out k I hDD
        have hres := chg_res HI.out.2.1 i (by rw [HM.out]; exact hi5) k' I' (fstS_mem _ _ hch)
        have hfst : fstC M = some (i, k', I') := by
          have key : ∀ (g j : Nat), j ≤ i → i < j + g → (∀ t, j ≤ t → t < i → chgAt M t = none) → fstFrom M g j = some (i, k', I') := by
            intro g
            induction g with
            | zero => intro j h1 h2; omega
            | succ g ih =>
              intro j h1 h2 h3
              rw [fstFrom]
              by_cases e : j = i
              · rw [e, hch]
              · rw [h3 j (Nat.le_refl _) (by omega)]
                exact ih (j + 1) (by omega) (by omega) (fun t ht1 ht2 => h3 t (by omega) ht2)
          exact key (M.length - 1) 0 (by omega) (by rw [HM.out]; omega) (fun t _ ht => HI.out.2.2.2 t ht (by omega))
        have hshort := hres.short
        rw [← hnx, HM.out] at hshort
        have hIl : I.length ≤ 200 := by
          have : (M.take i ++ I ++ M.drop (i + k)).length ≥ I.length := by simp; omega
          omega
        obtain ⟨X, hX⟩ : ∃ X, X = M.take i ++ I ++ M.drop (i + k) := ⟨_, rfl⟩
        rw [← hX] at hshort
        have HNX : Hid (Fine X ∧ (∀ N, Folds X N → Folds L N)) := by
          rw [hX, hnx]
          exact ⟨hres.fine, fun N hN => HI.out.2.2.1 N (.step M i k' I' N hfst hN)⟩
        have HXE : Hid (X = M.take i ++ I ++ M.drop (i + k)) := hX
        have HB2 : Hid (Below w.heap.size w w2) := HB.out.trans (b2.mono HB.out.size)
        have h1 := (HI.out.1.below b2).part 0 i (by rw [HM.out]; omega)
        rw [List.drop_zero, show f + 0 * 4 = f by omega] at h1
        have HCP : Hid (∀ W, Below w2.heap.size w2 W → Calls Tryz.prog 12 #[.slice (some ⟨b, f, none⟩) i cap'] W fun r w' => ∃ (o3 : Option Addr) (c3 : Nat), r = .returned (.slice o3 i c3) ∧ w'.ownsRow w2.heap.size 34 4 (.slice o3 i c3) i (cellsOf (M.take i)) ∧ Below w2.heap.size w2 w') := fun W bb => by
          refine (rcopyI (some ⟨b, f, none⟩) cap' i (M.take i) W (h1.below bb) (by rw [List.length_take, HM.out]; omega) (by omega)).mono ?_
          rintro r w' ⟨o3, c3, rfl, h3, h4⟩
          exact ⟨o3, c3, rfl, ownsRow_down h3 bb.size, bb.trans (h4.mono bb.size)⟩
        have HLI : Hid (LD w2 oI I) := hLI
        have h2 := (HI.out.1.below b2).part (i + k) (m - (i + k)) (by rw [HM.out]; omega)
        rw [List.take_of_length_le (by rw [List.length_drop, HM.out]; exact Nat.le_refl _)] at h2
        obtain ⟨e, he, he2⟩ : ∃ e, e = ((i : Int) + (k : Int)).toNat ∧ e = i + k := ⟨_, rfl, by omega⟩
        have HTL : Hid ((∀ W, Below w2.heap.size w2 W → LD W (some ⟨b, f + e * 4, none⟩) (M.drop e)) ∧ (M.drop e).length = m - e) := by
          rw [he2]
          exact ⟨fun W bb => h2.below bb, by rw [List.length_drop, HM.out]⟩
        have HXE2 : Hid (X = M.take i ++ I ++ M.drop e) := by rw [he2]; exact hX
        have hce : ¬ cap' = e := by omega
        obtain ⟨x00, hx00⟩ : ∃ x00 : Int, ∀ W, Below w2.heap.size w2 W → W.cell? ⟨b, f, none⟩ = some (.int .u8 x00) := by
          refine ⟨(M[0]!).op, fun W bb => ?_⟩
          have hz := ((HI.out.1.below b2).opz 0 (by rw [HM.out]; omega))
          rw [show f + 0 * 4 = f by omega] at hz
          exact (bb.cell (p := ⟨b, f, none⟩) hz.1).trans hz.2
        have HX0 : Hid (type_of% hx00) := hx00
        have x0c := hx00 w2 (Below.refl _ _)
        clear hx00
        have HOK : Hid (∀ W, Below w2.heap.size w2 W → ∀ d ∈ X, d.ok W) := fun W bb d hd => by
          rw [hX] at hd
          rcases List.mem_append.1 hd with hd | hd
          · rcases List.mem_append.1 hd with hd | hd
            · exact (h1.1 d hd).below bb
            · exact (hLI.1 d hd).below bb
          · exact (h2.1 d hd).below bb
        have HE : Hid (e = i + k) := he2
        obtain ⟨nI, hnI⟩ : ∃ nI, nI = I.length := ⟨_, rfl⟩
        have HNI : Hid (I.length = nI) := hnI.symm
        rw [← hnI] at hIl hI1 ⊢
        have HXL : Hid (X.length = i + nI + (m - e)) := by unfold Hid; rw [hX, List.length_append, List.length_append, List.length_take, List.length_drop, HM.out, ← hnI]; omega
        have hk1 : (0 : Int) < (k : Int) := by omega
        have hk2 : (0 : Int) ≤ (i : Int) + (k : Int) := by omega
        have hk3 : (i : Int) + (k : Int) ≤ (m : Int) := by omega
        have hw1 : IntKind.i64.wrap ((i : Int) + (k : Int)) = (i : Int) + (k : Int) := by rw [IntKind.wrap_i64]; omega
        rw [he] at HTL HXL HXE2 hce
        have hs2 := HB2.out.size
        clear b2 hDD HD1 HD2 HD3 hLI hres hfst h1 h2 hX hnI hnx hch HI he he2
        go_wp2_with fail
        go_region_held3 (fun w' => w'.cell? ⟨b, f, none⟩ = some (.int .u8 x00)) (first | (exact HX0.out _ fch) | go_keep)
          (first
            | (go_at_call 12; refine (HCP.out _ fch).mono ?_; rintro r w3 ⟨o3, c3, rfl, hw3, b3⟩; have HO3 : Hid (type_of% hw3) := hw3; have HB3 : Hid (type_of% b3) := b3; have hs3 := b3.size; clear hw3 b3)
            | (refine step_fins (by rfl) _ _ (by rfl) w2.heap.size o3 i c3 (M.take i) (by rfl) (by exact HO3.out) oI nI cI I (by rfl) (HLI.out.below fch) (by exact HNI.out) (by omega) (by omega) (by first | omega | (simp only [World.size_drew]; omega)) ?_; intro o4 c4 w4 hown4 hb4 hg4; have HB4 : Hid (Below w2.heap.size w2 w4) := Below.trans fch hb4; have HO4 : Hid (type_of% hown4) := hown4; have hs4 := HB4.out.size; clear hown4 hb4 hg4)
            | (refine step_fins (by rfl) _ _ (by rfl) w2.heap.size o4 (i + nI) c4 (M.take i ++ I) (by rfl) (by exact HO4.out) (some ⟨b, f + ((i : Int) + (k : Int)).toNat * 4, none⟩) (m - ((i : Int) + (k : Int)).toNat) (cap' - ((i : Int) + (k : Int)).toNat) (M.drop ((i : Int) + (k : Int)).toNat) (by rfl) (HTL.out.1 _ fch) (by exact HTL.out.2) (by omega) (by omega) (by first | omega | (simp only [World.size_drew]; omega)) ?_; intro o5 c5 w5 hown5 hb5 hg5; have HB5 : Hid (Below w2.heap.size w2 w5) := Below.trans fch hb5; have HO5 : Hid (type_of% hown5) := hown5; clear hown5 hb5 hg5))
        all_goals
          have hO5 := HO5.out
          rw [← HXE2.out] at hO5
          obtain ⟨l1, l2, l3⟩ := ld_own hO5 HXL.out (fun d hd => HOK.out _ HB5.out d hd)
          have HL5 : Hid (type_of% l1) := l1
          have HBE : Hid (Below w.heap.size w w5) := HB2.out.trans (HB5.out.mono HB2.out.size)
          rw [HXL.out] at hshort
          unfold maxLen at l3
          clear hO5 l1 HO5 HO4 HO3 HB3 HB4
          generalize i + nI + (m - ((i : Int) + (k : Int)).toNat) = m' at *
          go_wp2
          go_roundw
          case rel => exact ⟨X, o5, m', c5, 0, rfl, rfl, l2, l3, by omega, by omega, HXL, ⟨HL5.out, HNX.out.1, HNX.out.2, fun j hj => by omega⟩, HBE⟩
          case measure => simp [intOf]; omega
    · have him : i = m := by omega
      subst him
      have HE : Hid (∃ (M_1 : List InsD) (o'_1 : Option Addr) (cap'_1 : Nat), Ending.returned (.tuple #[.slice o' i cap', .int .i64 0]) = Ending.returned (.tuple #[.slice o'_1 M_1.length cap'_1, .int .i64 0]) ∧ LD wr o'_1 M_1 ∧ (M_1.length ≤ cap'_1 ∧ cap'_1 ≤ 9223372036854775807) ∧ Folds L M_1 ∧ Below w.heap.size w wr) :=
        ⟨M, o', cap', by rw [HM.out], HI.out.1, by rw [HM.out]; exact ⟨hc1, hc2⟩, HI.out.2.2.1 M (.done M (fstFrom_all M _ 0 (fun j _ hj => HI.out.2.2.2 j (by rw [HM.out] at hj; omega) (by rw [HM.out] at hj; omega)))), HB.out⟩
      clear HI hlt
      go_wp2
      go_ret2
      exact HE.out
theorem rfold_bad (o : Option Addr) (cap : Nat) (L : List InsD) (w : World) (h : LD w o L) (hcap : L.length ≤ cap) (hc : nChk L ≠ 0) (hM : MaxIn w) :
    Calls Tryz.prog 5 #[.slice o L.length cap] w fun r w' => r = .returned (.tuple #[.slice none 0 0, .int .i64 (nChk L)]) ∧ Below w.heap.size w w' := by
  have hck := rncheck_any o cap L w h hcap hM
  have HCK : Hid (type_of% hck) := hck
  have hne : (nChk L == 0) = false := by rw [beq_eq_false_iff_ne]; exact hc
  have hne2 : (nChk L != 0) = true := by rw [bne, hne]; rfl
  clear hck h hc hM
  generalize nChk L = c at *
  generalize L.length = n at *
  go_enter Tryz.func5, Tryz.ntmps5
  go_wp2_with fail
  refine HCK.out.mono ?_
  rintro r w1 ⟨rfl, b1⟩
  go_wp2
  go_ret2
  exact ⟨rfl, b1⟩
end Go.Proofs.YtkceplamaocmmaaGreatDoor
