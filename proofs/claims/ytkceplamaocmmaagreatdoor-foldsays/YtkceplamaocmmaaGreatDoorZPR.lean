/-
  Folding, the document's own way: upTo and constOf.
  Folding: an if that is known.
-/
import Derived.Test.YtkceplamaocmmaaGreatDoorZPO
import Derived.Test.YtkceplamaocmmaaGreatDoorZFD8
set_option maxHeartbeats 8000000
set_option maxRecDepth 1000000
namespace Go.Proofs.YtkceplamaocmmaaGreatDoor
open Go.RowKit
set_option linter.unusedVariables false
theorem rup_core (o : Option Addr) (cap n : Nat) (L : List InsD) (hl : L.length = n) (hn : n ≤ 200) (R1 R2 : Int) (w : World) (h : LD w o L) (HR0 : Hid (upV (L.map InsD.op) 0 0 (-1) = (R1, R2))) :
    Calls Tryz.prog 25 #[.slice o n cap] w fun r w' => r = .returned (.tuple #[.int .i64 R1, .int .i64 R2]) ∧ Below w.heap.size w w' := by
  have HLn : Hid (L.length = n) := hl
  have HLD : Hid (LD w o L) := h
  have hni : (n : Int) ≤ 200 := by omega
  have HD : Hid (∀ j, j < n → (L.map InsD.op).drop j = opAt L j :: (L.map InsD.op).drop (j + 1)) := fun j hj => ops_drop L j (by rw [hl]; exact hj)
  have HE : Hid ((L.map InsD.op).drop n = []) := List.drop_eq_nil_of_le (by rw [List.length_map, hl]; exact Nat.le_refl _)
  clear hl h
  go_enter Tryz.func25, Tryz.ntmps25
  go_wp2
  go_loopw [4, 5, 10] (fun ov hv iv wr => ∃ j : Nat, ∃ op hf : Int, ov = .int .i64 op ∧ hv = .int .i64 hf ∧ iv = .int .i64 (j : Int) ∧ j ≤ n ∧ (0 ≤ op ∧ op ≤ j) ∧ (-1 ≤ hf ∧ hf ≤ j) ∧ Hid (upV ((L.map InsD.op).drop j) (j : Int) op hf = (R1, R2)) ∧ Hid (Below w.heap.size w wr)) (fun _ _ iv _ => n - (intOf iv).toNat)
  case atStart => exact ⟨0, 0, -1, rfl, rfl, rfl, by omega, by omega, by omega, HR0, Below.refl _ _⟩
  case round =>
    obtain ⟨j, op, hf, rfl, rfl, rfl, hj, hop, hhf, HRR, HB⟩ := hrel
    have hsw := HB.out.size
    by_cases hlt : j < n
    · have hkl : j < L.length := by rw [HLn.out]; exact hlt
      rcases HLD.out.2 with h0 | ⟨b, f, rfl, hbw, hc⟩
      · exfalso; rw [h0] at hkl; simp at hkl
      obtain ⟨m0, m1, m2, m3⟩ := hc j hkl
      have hR := HRR.out
      rw [HD.out j hlt, opAt_get L j hkl, upV] at hR
      have e0 := (HB.out.cell (p := ⟨b, f + j * 4, none⟩) hbw).trans m0
      have e1 := (HB.out.cell (p := ⟨b, f + j * 4 + 1, none⟩) hbw).trans m1
      have e2 := (HB.out.cell (p := ⟨b, f + j * 4 + 2, none⟩) hbw).trans m2
      have e3 := (HB.out.cell (p := ⟨b, f + j * 4 + 3, none⟩) hbw).trans m3
      have HB2 : Hid (Below w.heap.size w (wr.alloc (.cells #[.int .u8 (L[j]).op, .int .i64 (L[j]).A, .int .i64 (L[j]).B, .slice (L[j]).o (L[j]).n (L[j]).cap] 34))) := HB.out.alloc hsw _
      clear hc m0 m1 m2 m3 HB HRR
      generalize L[j] = d at e0 e1 e2 e3 hR HB2
      obtain ⟨x, A, B', o', n', cap', xs⟩ := d
      simp only at e0 e1 e2 e3 hR HB2
      have hki0 : (0 : Int) ≤ (j : Int) := by omega
      have hki1 : (j : Int) < (n : Int) := by omega
      by_cases h11 : x = 11
      · subst h11
        rw [if_pos rfl] at hR
        have hw1 : IntKind.i64.wrap (op - 1) = op - 1 := by rw [IntKind.wrap_i64]; omega
        by_cases hz : op - 1 ≤ 0
        · rw [if_pos hz] at hR
          simp only [Prod.mk.injEq] at hR
          obtain ⟨rfl, rfl⟩ := hR
          go_wp2
          go_ret2
          exact ⟨rfl, HB2.out⟩
        · rw [if_neg hz] at hR
          have HR2 : Hid (type_of% hR) := hR
          clear hR
          go_wp2
          go_roundw
          case rel => exact ⟨j + 1, op - 1, hf, rfl, rfl, by go_num, by omega, by omega, by omega, by unfold Hid; rw [← HR2.out]; congr 1, HB2⟩
          case measure => simp [intOf]; omega
      rw [if_neg h11] at hR
      have g11 : (x == 11) = false := by rw [beq_eq_false_iff_ne]; exact h11
      by_cases h5 : x = 5
      · subst h5
        rw [if_pos rfl] at hR
        by_cases hz : op = 1
        · rw [if_pos hz] at hR
          subst hz
          have HR2 : Hid (type_of% hR) := hR
          clear hR
          go_wp2
          go_roundw
          case rel => exact ⟨j + 1, 1, (j : Int), rfl, rfl, by go_num, by omega, by omega, by omega, by unfold Hid; rw [← HR2.out]; congr 1, HB2⟩
          case measure => simp [intOf]; omega
        · rw [if_neg hz] at hR
          have gz : (op == 1) = false := by rw [beq_eq_false_iff_ne]; exact hz
          have HR2 : Hid (type_of% hR) := hR
          clear hR
          go_wp2
          go_roundw
          case rel => exact ⟨j + 1, op, hf, rfl, rfl, by go_num, by omega, by omega, by omega, by unfold Hid; rw [← HR2.out]; congr 1, HB2⟩
          case measure => simp [intOf]; omega
      rw [if_neg h5] at hR
      have g5 : (x == 5) = false := by rw [beq_eq_false_iff_ne]; exact h5
      by_cases h24 : 2 ≤ x ∧ x ≤ 4
      · rw [if_pos h24] at hR
        have g1 : decide (2 ≤ x) = true := by simp; omega
        have g3 : decide (x ≤ 4) = true := by simp; omega
        have HR2 : Hid (type_of% hR) := hR
        clear hR h24
        go_wp2
        go_roundw
        case rel => exact ⟨j + 1, op + 1, hf, by go_num, rfl, by go_num, by omega, by omega, by omega, by unfold Hid; rw [← HR2.out]; congr 1, HB2⟩
        case measure => simp [intOf]; omega
      · rw [if_neg h24] at hR
        have HR2 : Hid (type_of% hR) := hR
        clear hR
        by_cases h2 : 2 ≤ x
        · have g1 : decide (2 ≤ x) = true := by simp; omega
          have g3 : decide (x ≤ 4) = false := by simp; omega
          clear h24
          go_wp2
          go_roundw
          case rel => exact ⟨j + 1, op, hf, rfl, rfl, by go_num, by omega, by omega, by omega, by unfold Hid; rw [← HR2.out]; congr 1, HB2⟩
          case measure => simp [intOf]; omega
        · have g1 : decide (2 ≤ x) = false := by simp; omega
          clear h24
          go_wp2
          go_roundw
          case rel => exact ⟨j + 1, op, hf, rfl, rfl, by go_num, by omega, by omega, by omega, by unfold Hid; rw [← HR2.out]; congr 1, HB2⟩
          case measure => simp [intOf]; omega
    · have hjn : j = n := by omega
      subst hjn
      have hR := HRR.out
      rw [HE.out, upV] at hR
      simp only [Prod.mk.injEq] at hR
      obtain ⟨rfl, rfl⟩ := hR
      have hw1 : IntKind.i64.wrap ((j : Int) - 1) = (j : Int) - 1 := by rw [IntKind.wrap_i64]; omega
      clear HRR hlt
      go_wp2
      go_ret2
      exact ⟨rfl, HB.out⟩
def rowOf (w : World) (op A : Int) : World := w.alloc (.cells #[.int .u8 op, .int .i64 A, .int .i64 0, .slice none 0 0] 34)
theorem rconst (s : ByteArray) (k : Int) (n : Int) (hs : s = ⟨#[105, 62, 105]⟩ ∧ k = 65 ∨ s = ⟨#[108, 62, 105]⟩ ∧ k = 65 ∨ s = ⟨#[105, 62, 108]⟩ ∧ k = 66 ∨ s = ⟨#[108, 62, 108]⟩ ∧ k = 66 ∨ s = ⟨#[105, 105, 62, 105]⟩ ∧ k = 65 ∨ s = ⟨#[108, 108, 62, 105]⟩ ∧ k = 65 ∨ s = ⟨#[105, 105, 62, 108]⟩ ∧ k = 66 ∨ s = ⟨#[108, 108, 62, 108]⟩ ∧ k = 66) (w : World) :
    Calls Tryz.prog 23 #[.string s, .int .i64 n] w fun r w' => r = .returned (.slice (some ⟨w.heap.size, 0, none⟩) 1 1) ∧ w' = rowOf w k n := by
  unfold rowOf
  rcases hs with ⟨rfl, rfl⟩ | ⟨rfl, rfl⟩ | ⟨rfl, rfl⟩ | ⟨rfl, rfl⟩ | ⟨rfl, rfl⟩ | ⟨rfl, rfl⟩ | ⟨rfl, rfl⟩ | ⟨rfl, rfl⟩
  all_goals
    go_enter Tryz.func23, Tryz.ntmps23
    go_wp2
    go_ret
    exact ⟨rfl, rfl⟩
end Go.Proofs.YtkceplamaocmmaaGreatDoor
namespace Go.Proofs.YtkceplamaocmmaaGreatDoor
open Go.RowKit
set_option linter.unusedVariables false
theorem fdrewB {B : Nat} {w w' : World} (h : Below B w w') (k : Nat) : Below B w (w'.drewN k) := ⟨h.os, h.tape, h.output, h.size, h.block⟩
theorem fsizeN (w : World) (k : Nat) : (w.drewN k).heap.size = w.heap.size := rfl
theorem fch2 {N : Nat} {w w' : World} (h : Below N w w' := by repeat' (first | with_reducible exact Below.refl _ _ | with_reducible exact Hid.out (by assumption) | with_reducible refine fdrewB ?_ _ | with_reducible refine Below.drew ?_ | with_reducible refine Below.alloc ?_ ?_ _ | (simp only [World.size_alloc, World.size_drew, fsizeN]; omega) | omega)) : Below N w w' := h
theorem ROut.putK {w wa : World} (b : Below w.heap.size w wa) (k : Nat) (kk : Int) (hk : kk = (k : Int)) (o : Option Addr) (n cap : Nat) (I : List InsD) (h : LD wa o I) (hn : I.length = n) (hc : n ≤ cap) (hc2 : cap ≤ 9223372036854775807) : ROut w (wa.alloc (.cells #[.int .i64 kk, .slice o n cap] 46)) (.returned (.pointer (some ⟨wa.heap.size, 0, Option.none⟩))) (some (k, I)) := by
  subst hk hn
  exact ROut.put b k o cap I h hc hc2
theorem if_at {L : List InsD} (hL : Fine L) (p : Nat) (hp : p < L.length) (h4 : opAt L p = 4) : ∃ q : Nat, (matchOf L).2.1.getD p 0 = (q : Int) ∧ p < q ∧ q < L.length ∧ ((matchOf L).2.2.getD p 0 = -1 ∨ ∃ t : Nat, (matchOf L).2.2.getD p 0 = (t : Int) ∧ p < t ∧ t < q) := by
  cases fine_at hL p hp (by omega) (by omega) with
  | one o e => rw [h4] at o; exact absurd (Or.inr (Or.inr rfl)) o
  | block q d s h hq o oq e r => exact ⟨q, e, h, by omega, Or.inl (by omega)⟩
  | turn t q d s d2 s2 h ht hq o ot oq e te r r2 => exact ⟨q, e, by omega, by omega, Or.inr ⟨t, te, h, ht⟩⟩
theorem rule7 (o : Option Addr) (cap : Nat) (L : List InsD) (i : Nat) (w : World) (h : LD w o L) (hcap : L.length ≤ cap ∧ cap ≤ 9223372036854775807) (hL : Fine L) (hi : i + 1 < L.length) (hF : FA w) :
    Calls Tryz.prog 53 #[.slice o L.length cap, .int .i64 (i : Int)] w fun r w' => ROut w w' r (chg7 L (matchOf L).2.1 (matchOf L).2.2 i (L[i]!) (L[i+1]!)) := by
  have hn := (nChk_ok L hL.chk).1
  have hy : L[i+1]! = L[i+1] := getElem!_pos L (i+1) hi
  have oy := opAt_get L (i+1) hi
  have hyo := h.at_ok (i + 1) hi
  have HIF : Hid ((L[i+1]!).op = 4 → _) := fun h4 => if_at hL (i + 1) hi (by rw [oy, ← hy]; exact h4)
  have HLD : Hid (LD w o L) := h
  have HM : Hid (type_of% (match_any o cap L w h hF.tab hF.sz hL.chk)) := match_any o cap L w h hF.tab hF.sz hL.chk
  obtain ⟨b, f, rfl, hb, hx4, hy4⟩ := h.two i hi
  have HPT : Hid (∀ t, t ≤ L.length → i + 2 ≤ t → LD w (some ⟨b, f + (i + 2) * 4, none⟩) (sgI L (i + 2) t) ∧ (sgI L (i + 2) t).length = t - (i + 2)) := fun t h1 h2 => ⟨h.part (i + 2) (t - (i + 2)) (by omega), sgI_len L (i + 2) t h1⟩
  have hi0 : (0 : Int) ≤ (i : Int) := by omega
  have hi1 : (i : Int) < (L.length : Int) := by omega
  have hj0 : (0 : Int) ≤ (i : Int) + 1 := by omega
  have hj1 : (i : Int) + 1 < (L.length : Int) := by omega
  have hw1 : IntKind.i64.wrap ((i : Int) + 1) = (i : Int) + 1 := by rw [IntKind.wrap_i64]; omega
  have hw2 : IntKind.i64.wrap ((i : Int) + 2) = (i : Int) + 2 := by rw [IntKind.wrap_i64]; omega
  unfold chg7 ifV
  clear hy oy h hL hF HLD
  generalize (matchOf L).2.1 = E at *
  generalize (matchOf L).2.2 = S at *
  generalize (matchOf L).1 = O at *
  generalize L[i]! = x at *
  generalize L[i+1]! = y at *
  obtain ⟨F, hF⟩ : ∃ F : Nat → List InsD, F = sgI L (i + 2) := ⟨_, rfl⟩
  rw [← hF] at HPT ⊢
  generalize L.length = n at *
  clear hF
  have hyA := hyo.a
  obtain ⟨op, A, B, xo, xn, xc, xs⟩ := x
  obtain ⟨op', A', B', yo, yn, yc, ys⟩ := y
  simp only at *
  have HC : Hid (∀ W, Below w.heap.size w W → W.cell? ⟨b, f + i * 4 + 1, none⟩ = some (.int .i64 A) ∧ W.cell? ⟨b, f + (i + 1) * 4 + 1, none⟩ = some (.int .i64 A')) := fun W bb => ⟨(bb.cell (p := ⟨b, _, none⟩) hb).trans hx4.2.1, (bb.cell (p := ⟨b, _, none⟩) hb).trans hy4.2.1⟩
  have HOK : Hid (∀ W, (mkD 2 A').ok W) := fun W => mkD_ok W 2 A' (by omega) (by omega) hyA
  have x0 := hx4.1
  have y0 := hy4.1
  clear hx4 hy4 hyo hyA
  by_cases hop : op = 65
  case neg =>
    rw [if_neg (by omega)]
    have c1 : (op != 65) = true := by simp [hop]
    clear HM HIF HPT HC HOK hop
    go_enter Tryz.func53, Tryz.ntmps53
    go_wp2
    go_ret
    exact ROut.none (Below.refl _ _)
  by_cases hop' : op' = 4
  case neg =>
    rw [if_neg (by omega)]
    have c1 : (op != 65) = false := by simp [hop]
    have c2 : (op' != 4) = true := by simp [hop']
    clear HM HIF HPT HC HOK hop hop'
    go_enter Tryz.func53, Tryz.ntmps53
    go_wp2
    go_ret
    exact ROut.none (Below.refl _ _)
  rw [if_pos ⟨hop, hop'⟩]
  subst hop hop'
  obtain ⟨q, hq, hq1, hq2, htv⟩ := HIF.out rfl
  obtain ⟨tv, ht⟩ : ∃ tv, tv = S.getD (i + 1) 0 := ⟨_, rfl⟩
  rw [← ht] at htv ⊢
  rw [hq]
  have HQ : Hid (E.getD (i + 1) 0 = (q : Int)) := hq
  have HT : Hid (S.getD (i + 1) 0 = tv) := ht.symm
  have hq' : ((q : Int).toNat) = q := by omega
  rw [hq']
  clear HIF hq ht hq'
  by_cases hA : A = 0
  · subst hA
    rw [if_neg (by simp)]
    rcases htv with rfl | ⟨t, rfl, ht1, ht2⟩
    · rw [if_neg (by omega)]
      have hg : ¬ ((i : Int) < -1) := by omega
      have hk1 : IntKind.i64.wrap ((q : Int) + 1) = (q : Int) + 1 := by rw [IntKind.wrap_i64]; omega
      have hk2 : IntKind.i64.wrap ((q : Int) + 1 - (i : Int)) = (q : Int) + 1 - (i : Int) := by rw [IntKind.wrap_i64]; omega
      go_enter Tryz.func53, Tryz.ntmps53
      go_wp2_with fail
      refine HM.out.mono ?_
      rintro r w1 ⟨gE, gS, o2, cap2, rfl, hms⟩
      have hce := (hms.cellE (i + 1) (by omega)).1
      have hcs := (hms.cellS (i + 1) (by omega)).1
      rw [HQ.out] at hce
      rw [HT.out] at hcs
      obtain ⟨x1, y1⟩ := HC.out w1 hms.below
      have HB : Hid (type_of% hms.below) := hms.below
      have hsz1 := hms.below.size
      clear hms
      go_wp2_with (first | (go_at_call 73; refine (fbecomes _ _ _ _ _).mono ?_; rintro r w5 ⟨rfl, rfl⟩) | go_quiet (fail))
      go_ret
      have hl := ROut.putK (w := w) (wa := (w1.drewN nq).alloc (.cells #[.int .u8 2, .int .i64 A', .int .i64 0, .slice none 0 0] 34)) fch2 (q + 1 - i) ((q : Int) + 1 - (i : Int)) (by omega) none 0 0 [] ⟨by simp, Or.inl rfl⟩ rfl (by omega) (by omega)
      rw [World.size_alloc, fsizeN] at hl
      exact hl
    · rw [if_pos (by omega)]
      have hg : ((i : Int) < (t : Int)) := by omega
      have ht' : ((t : Int).toNat) = t := by omega
      rw [ht']
      have hk1 : IntKind.i64.wrap ((t : Int) + 1) = (t : Int) + 1 := by rw [IntKind.wrap_i64]; omega
      have hk2 : IntKind.i64.wrap ((t : Int) + 1 - (i : Int)) = (t : Int) + 1 - (i : Int) := by rw [IntKind.wrap_i64]; omega
      go_enter Tryz.func53, Tryz.ntmps53
      go_wp2_with fail
      refine HM.out.mono ?_
      rintro r w1 ⟨gE, gS, o2, cap2, rfl, hms⟩
      have hce := (hms.cellE (i + 1) (by omega)).1
      have hcs := (hms.cellS (i + 1) (by omega)).1
      rw [HQ.out] at hce
      rw [HT.out] at hcs
      obtain ⟨x1, y1⟩ := HC.out w1 hms.below
      have HB : Hid (type_of% hms.below) := hms.below
      have hsz1 := hms.below.size
      clear hms
      go_wp2_with (first | (go_at_call 73; refine (fbecomes _ _ _ _ _).mono ?_; rintro r w5 ⟨rfl, rfl⟩) | go_quiet (fail))
      go_ret
      exact rout_oneX fch2 (t + 1 - i) ((t : Int) + 1 - (i : Int)) (by omega) (mkD 2 A') (HOK.out _)
  · rw [if_pos hA]
    have hAb : (A != 0) = true := by simp [hA]
    rcases htv with rfl | ⟨t, rfl, ht1, ht2⟩
    · rw [if_neg (by omega)]
      have hg : ¬ ((i : Int) < -1) := by omega
      clear hA
      go_enter Tryz.func53, Tryz.ntmps53
      go_wp2_with fail
      refine HM.out.mono ?_
      rintro r w1 ⟨gE, gS, o2, cap2, rfl, hms⟩
      have hce := (hms.cellE (i + 1) (by omega)).1
      have hcs := (hms.cellS (i + 1) (by omega)).1
      rw [HQ.out] at hce
      rw [HT.out] at hcs
      obtain ⟨x1, y1⟩ := HC.out w1 hms.below
      have HB : Hid (type_of% hms.below) := hms.below
      have hsz1 := hms.below.size
      clear hms
      go_wp2_with (first | (go_at_call 73; refine (fbecomes _ _ _ _ _).mono ?_; rintro r w5 ⟨rfl, rfl⟩) | go_quiet (fail))
      go_ret
      exact rout_oneX fch2 2 2 rfl (mkD 2 A') (HOK.out _)
    · rw [if_pos (by omega)]
      have hg : ((i : Int) < (t : Int)) := by omega
      have ht' : ((t : Int).toNat) = t := by omega
      rw [ht']
      have hk1 : IntKind.i64.wrap ((q : Int) - (i : Int)) = (q : Int) - (i : Int) := by rw [IntKind.wrap_i64]; omega
      have hl1 : (i : Int) + 2 ≤ (t : Int) := by omega
      have hl2 : (t : Int) ≤ (cap : Int) := by omega
      have hl3 : (0 : Int) ≤ (i : Int) + 2 := by omega
      clear hA
      go_enter Tryz.func53, Tryz.ntmps53
      go_wp2_with fail
      refine HM.out.mono ?_
      rintro r w1 ⟨gE, gS, o2, cap2, rfl, hms⟩
      have hce := (hms.cellE (i + 1) (by omega)).1
      have hcs := (hms.cellS (i + 1) (by omega)).1
      rw [HQ.out] at hce
      rw [HT.out] at hcs
      obtain ⟨x1, y1⟩ := HC.out w1 hms.below
      have HB : Hid (type_of% hms.below) := hms.below
      have hsz1 := hms.below.size
      clear hms
      go_wp2_with (first | go_quiet (fail) | fail)
      have bA : Below w.heap.size w (((w1.drewN nq).alloc (.cells #[.int .u8 2, .int .i64 A', .int .i64 0, .slice none 0 0] 34)).alloc (.cells #[.slice (some ⟨w1.heap.size, 0, none⟩) 1 1, .slice (some ⟨b, f + (i + 2) * 4, none⟩) (t - (i + 2)) (cap - (i + 2))] 22)) := fch2
      obtain ⟨hp1, hp2⟩ := HPT.out t (by omega) (by omega)
      have hnX := new_block ((w1.drewN nq).alloc (.cells #[.int .u8 2, .int .i64 A', .int .i64 0, .slice none 0 0] 34)) (.cells #[.slice (some ⟨w1.heap.size, 0, none⟩) 1 1, .slice (some ⟨b, f + (i + 2) * 4, none⟩) (t - (i + 2)) (cap - (i + 2))] 22)
      have hsz2 : ((w1.drewN nq).alloc (.cells #[.int .u8 2, .int .i64 A', .int .i64 0, .slice none 0 0] 34)).heap.size = w1.heap.size + 1 := by rw [World.size_alloc, fsizeN]
      rw [hsz2] at hnX
      have hR := (ld_one (w1.drewN nq) (mkD 2 A') (HOK.out _)).below ((Below.refl _ _).alloc (Nat.le_refl _) (.cells #[.slice (some ⟨w1.heap.size, 0, none⟩) 1 1, .slice (some ⟨b, f + (i + 2) * 4, none⟩) (t - (i + 2)) (cap - (i + 2))] 22))
      have hC := fconcat (w1.heap.size + 1) 2 (fun j => if j = 0 then [] else if j = 1 then [mkD 2 A'] else mkD 2 A' :: F t) (((w1.drewN nq).alloc (.cells #[.int .u8 2, .int .i64 A', .int .i64 0, .slice none 0 0] 34)).alloc (.cells #[.slice (some ⟨w1.heap.size, 0, none⟩) 1 1, .slice (some ⟨b, f + (i + 2) * 4, none⟩) (t - (i + 2)) (cap - (i + 2))] 22)) (by omega) (by simp only [World.size_alloc, fsizeN]; omega) rfl (fun j hj => by
        obtain rfl | rfl : j = 0 ∨ j = 1 := by omega
        · exact ⟨some ⟨w1.heap.size, 0, none⟩, 1, 1, [mkD 2 A'], fcell (v := .slice (some ⟨w1.heap.size, 0, none⟩) 1 1) hnX 0 rfl, hR, rfl, by omega, rfl, by simp⟩
        · exact ⟨some ⟨b, f + (i + 2) * 4, none⟩, t - (i + 2), cap - (i + 2), F t, fcell (v := .slice (some ⟨b, f + (i + 2) * 4, none⟩) (t - (i + 2)) (cap - (i + 2))) hnX 1 rfl, hp1.below bA, hp2, by omega, rfl, by simp [hp2]; omega⟩)
      have HC2 : Hid (type_of% hC) := hC
      have HOKS : Hid (∀ d ∈ mkD 2 A' :: F t, d.ok w) := fun d hd => by
        rcases List.mem_cons.1 hd with rfl | hd
        · exact HOK.out _
        · exact hp1.1 d hd
      have hlen : (mkD 2 A' :: F t).length = t - (i + 2) + 1 := by rw [List.length_cons, hp2]
      have HLEN : Hid (type_of% hlen) := hlen
      have HBA : Hid (type_of% bA) := bA
      clear hp1 hp2 hnX hR hC bA hlen
      refine HC2.out.mono ?_
      rintro r w3 ⟨o3, c3, rfl, hown, b3⟩
      have h3 : Below w.heap.size w w3 := HBA.out.trans (b3.mono HBA.out.size)
      simp only [show ¬ (2 : Nat) = 0 by omega, show ¬ (2 : Nat) = 1 by omega, if_false] at hown
      obtain ⟨hld, hc1, hc2⟩ := ld_own hown rfl (fun d hd => (HOKS.out d hd).below h3)
      rw [HLEN.out] at hc1
      have hlast : ROut w (w3.alloc (.cells #[.int .i64 ((q : Int) - (i : Int)), .slice o3 (t - (i + 2) + 1) c3] 46)) (.returned (.pointer (some ⟨w3.heap.size, 0, none⟩))) (some (q - i, mkD 2 A' :: F t)) := ROut.putK h3 (q - i) _ (by omega) o3 (t - (i + 2) + 1) c3 _ hld HLEN.out hc1 (by unfold maxLen at hc2; omega)
      have HLAST : Hid (type_of% hlast) := hlast
      simp only [show ¬ (2 : Nat) = 0 by omega, show ¬ (2 : Nat) = 1 by omega, if_false]
      rw [HLEN.out]
      clear hown b3 h3 hld hc1 hc2 hlast HC2 HOKS
      go_wp2_with (go_at_call 73; refine (fbecomes _ _ _ _ _).mono ?_; rintro r w5 ⟨rfl, rfl⟩)
      go_ret
      exact HLAST.out
end Go.Proofs.YtkceplamaocmmaaGreatDoor
