/-
  Folding: the lowest place at which a rule applies.
  Folding: until no rule applies.
-/
import Derived.Test.YtkceplamaocmmaaGreatDoorZPR
set_option maxHeartbeats 8000000
set_option maxRecDepth 1000000
namespace Go.Proofs.YtkceplamaocmmaaGreatDoor
open Go.RowKit
set_option linter.unusedVariables false
def ruleVals : Array Value := #[.func (.func 46) #[] #[], .func (.func 47) #[] #[], .func (.func 48) #[] #[], .func (.func 49) #[] #[], .func (.func 50) #[] #[], .func (.func 51) #[] #[], .func (.func 52) #[] #[], .func (.func 53) #[] #[], .func (.func 54) #[] #[], .func (.func 55) #[] #[], .func (.func 56) #[] #[]]
theorem frules (w : World) : Calls Tryz.prog 32 #[] w fun r w' => ∃ t, r = .returned (.slice (some ⟨w.heap.size, 0, none⟩) 11 11) ∧ w' = w.alloc (.cells ruleVals t) := by
  go_enter Tryz.func32, Tryz.ntmps32
  go_wp2
  go_ret
  exact ⟨_, rfl, rfl⟩
theorem fcall_enter {P : Program} {f : FuncId} {fn : Func} {c : Code} (hf : P.funcs[f]? = some fn) (hname : (fn.name == "runtime.NumGoroutine") = false) (hb : fn.body = some c) (args : Array Value) (w : World) : (callFunc f args).run P w = .ok (.enter f args) w := by
  simp only [callFunc, Sem.run_bind, run_program, Result.andThen_ok, hf, hname, hb]
  rfl
theorem rule_any (o : Option Addr) (cap : Nat) (L : List InsD) (i : Nat) (w : World) (h : LD w o L) (hcap : L.length ≤ cap ∧ cap ≤ 9223372036854775807) (hL : Fine L) (hi : i + 1 < L.length) (hF : FA w) (j : Nat) (hj : j < 11) : ∃ fid, ruleVals[j]? = some (.func (.func fid) #[] #[]) ∧ (∀ args W, Sem.run Tryz.prog (callFunc fid args) W = .ok (.enter fid args) W) ∧ ∀ W, Below w.heap.size w W → Calls Tryz.prog fid #[.slice o L.length cap, .int .i64 (i : Int)] W fun r w' => ROut W w' r ((chgs L i)[j]'hj) := by
  have hn := (nChk_ok L hL.chk).1
  have hi2 : isC (L[i+1]!).op = true → i + 2 < L.length := fun e => by
    have := fine_last hL
    have hne : i + 1 ≠ L.length - 1 := fun e2 => by
      rw [← e2, opAt_get L (i+1) hi] at this
      rw [getElem!_pos L (i+1) hi, this] at e
      cases e
    omega
  obtain rfl | rfl | rfl | rfl | rfl | rfl | rfl | rfl | rfl | rfl | rfl : j = 0 ∨ j = 1 ∨ j = 2 ∨ j = 3 ∨ j = 4 ∨ j = 5 ∨ j = 6 ∨ j = 7 ∨ j = 8 ∨ j = 9 ∨ j = 10 := by omega
  · exact ⟨_, rfl, fcall_enter Tryz.func46 rfl rfl, fun W bb => rule0 o cap L i W (h.below bb) hn hi⟩
  · exact ⟨_, rfl, fcall_enter Tryz.func47 rfl rfl, fun W bb => rule1 o cap L i W (h.below bb) hn hcap hi (hF.under bb)⟩
  · exact ⟨_, rfl, fcall_enter Tryz.func48 rfl rfl, fun W bb => rule2 o cap L i W (h.below bb) hn hcap hi hi2 (hF.under bb)⟩
  · exact ⟨_, rfl, fcall_enter Tryz.func49 rfl rfl, fun W bb => rule3 o cap L i W (h.below bb) hn hi⟩
  · exact ⟨_, rfl, fcall_enter Tryz.func50 rfl rfl, fun W bb => rule4 o cap L i W (h.below bb) hn hi⟩
  · exact ⟨_, rfl, fcall_enter Tryz.func51 rfl rfl, fun W bb => rule5 o cap L i W (h.below bb) hL hi (hF.under bb)⟩
  · exact ⟨_, rfl, fcall_enter Tryz.func52 rfl rfl, fun W bb => rule6 o cap L i W (h.below bb) hn hi⟩
  · exact ⟨_, rfl, fcall_enter Tryz.func53 rfl rfl, fun W bb => rule7 o cap L i W (h.below bb) hcap hL hi (hF.under bb)⟩
  · exact ⟨_, rfl, fcall_enter Tryz.func54 rfl rfl, fun W bb => rule8 o cap L i W (h.below bb) hn hi⟩
  · exact ⟨_, rfl, fcall_enter Tryz.func55 rfl rfl, fun W bb => rule9 o cap L i W (h.below bb) hn hi⟩
  · exact ⟨_, rfl, fcall_enter Tryz.func56 rfl rfl, fun W bb => rule10 o cap L i W (h.below bb) hn hi⟩
def COut (w w' : World) (r : Ending) (c : Option (Nat × Nat × List InsD)) : Prop :=
  Below w.heap.size w w' ∧ match c with
  | none => r = .returned (.tuple #[.int .i64 0, .pointer none])
  | some q => ∃ (P : Nat) (o : Option Addr) (cap : Nat), r = .returned (.tuple #[.int .i64 q.1, .pointer (some ⟨P, 0, none⟩)]) ∧ P < w'.heap.size ∧ w'.cell? ⟨P, 0, none⟩ = some (.int .i64 q.2.1) ∧ w'.cell? ⟨P, 1, none⟩ = some (.slice o q.2.2.length cap) ∧ LD w' o q.2.2 ∧ q.2.2.length ≤ cap ∧ cap ≤ 9223372036854775807
theorem fstS_step {α : Type} (l : List (Option α)) (j : Nat) (h : j < l.length) : fstS (l.drop j) = (l[j]).or (fstS (l.drop (j + 1))) := by
  rw [List.drop_eq_getElem_cons h]
  cases l[j] <;> rfl
theorem ffirst (o : Option Addr) (cap : Nat) (L : List InsD) (w : World) (h : LD w o L) (hcap : L.length ≤ cap ∧ cap ≤ 9223372036854775807) (hL : Fine L) (hF : FA w) :
    Calls Tryz.prog 16 #[.slice o L.length cap] w fun r w' => COut w w' r (fstC L) := by
  obtain ⟨hn, _, _, hpos⟩ := nChk_ok L hL.chk
  have HR : Hid (∀ i, i + 1 < L.length → ∀ j (hj : j < 11), _) := fun i hi j hj => rule_any o cap L i w h hcap hL hi hF j hj
  have HS : Hid (∀ i f, fstFrom L (f + 1) i = match chgAt L i with | some q => some (i, q) | none => fstFrom L f (i + 1)) := fun i f => rfl
  have HC : Hid (∀ i j (hj : j < 11), fstS ((chgs L i).drop j) = ((chgs L i)[j]'hj).or (fstS ((chgs L i).drop (j + 1)))) := fun i j hj => fstS_step (chgs L i) j hj
  have HC11 : Hid (∀ i, fstS ((chgs L i).drop 11) = none) := fun i => rfl
  have HC0 : Hid (∀ i, fstS ((chgs L i).drop 0) = chgAt L i) := fun i => rfl
  obtain ⟨R, hR⟩ : ∃ R, R = fstC L := ⟨_, rfl⟩
  rw [← hR]
  have HRR : Hid (R = fstFrom L (L.length - 1) 0) := hR
  have HF0 : Hid (∀ i, fstFrom L 0 i = none) := fun i => rfl
  have hw1 : IntKind.i64.wrap ((L.length : Int) - 1) = (L.length : Int) - 1 := by rw [IntKind.wrap_i64]; omega
  generalize L.length = n at *
  clear h hL hF hR
  go_enter Tryz.func16, Tryz.ntmps16
  go_wp2_with fail
  refine (frules w).mono ?_
  rintro r w1 ⟨t, rfl, rfl⟩
  have b1 : Below w.heap.size w (w.alloc (.cells ruleVals t)) := (Below.refl _ _).alloc (Nat.le_refl _) _
  have HN : Hid ((w.alloc (.cells ruleVals t)).heap[w.heap.size]? = some (.cells ruleVals t)) := new_block w _
  have HB1 : Hid (type_of% b1) := b1
  have hsz : (w.alloc (.cells ruleVals t)).heap.size = w.heap.size + 1 := by simp
  have HSZ : Hid (type_of% hsz) := hsz
  clear b1 hsz
  obtain ⟨v, hv⟩ : ∃ v, v = w.alloc (.cells ruleVals t) := ⟨_, rfl⟩
  rw [← hv] at HN HB1 HSZ ⊢
  clear hv
  go_wp2
  go_loopw [13] (fun iv wr => ∃ i : Nat, iv = .int .i64 (i : Int) ∧ i ≤ n - 1 ∧ Hid (Below v.heap.size v wr) ∧ Hid (fstFrom L (n - 1 - i) i = R)) (fun iv _ => n - 1 - (intOf iv).toNat)
  case atStart => exact ⟨0, rfl, by omega, Below.refl _ _, HRR.out.symm⟩
  case round =>
    obtain ⟨i, rfl, hi, HB, HI⟩ := hrel
    by_cases hlt : i < n - 1
    · have hlt' : (i : Int) < (n : Int) - 1 := by omega
      have hfs := HS.out i (n - 1 - (i + 1))
      rw [show n - 1 - (i + 1) + 1 = n - 1 - i by omega, HI.out] at hfs
      have HI2 : Hid (type_of% hfs) := hfs
      clear hfs
      go_wp2
      go_loopw [18] (fun jv wr => ∃ j : Nat, jv = .int .i64 (j : Int) ∧ j ≤ 11 ∧ Hid (Below v.heap.size v wr) ∧ Hid (fstS ((chgs L i).drop j) = chgAt L i)) (fun jv _ => 11 - (intOf jv).toNat)
      case atStart => exact ⟨0, rfl, by omega, HB, HC0.out i⟩
      case round =>
        clear HB
        obtain ⟨j, rfl, hj, HB, HJ⟩ := hrel
        by_cases hj2 : j < 11
        · obtain ⟨fid, hfid, hcf, hcall⟩ := HR.out i (by omega) j hj2
          have hcell : _root_.Go.World.cell? _ ⟨w.heap.size, j, none⟩ = _ := (HB.out.cell (p := ⟨w.heap.size, j, none⟩) (by show w.heap.size < v.heap.size; rw [HSZ.out]; omega)).trans (fcell HN.out j hfid)
          have HCA : Hid (type_of% hcall) := hcall
          have hst := HC.out i j hj2
          rw [HJ.out] at hst
          have HST : Hid (type_of% hst) := hst
          have hB2 : Below w.heap.size w _ := HB1.out.trans (HB.out.mono HB1.out.size)
          have HB2 : Hid (type_of% hB2) := hB2
          have hjj : (j : Int) < 11 := by omega
          have hjj0 : (0 : Int) ≤ (j : Int) := by omega
          clear hcall hst hfid hB2
          go_wp2_with fail
          refine (HCA.out _ HB2.out).mono ?_
          intro r w3 hro
          cases hch : (chgs L i)[j]'hj2 with
          | none =>
            rw [hch] at hro
            obtain ⟨b3, rfl⟩ := hro
            have HB3 : Hid (Below v.heap.size v w3) := HB.out.trans (b3.mono HB.out.size)
            have hst := HST.out
            rw [hch, Option.none_or] at hst
            have HST2 : Hid (type_of% hst) := hst
            clear b3 hst hcf hch
            go_wp2
            go_roundw
            case rel => exact ⟨j + 1, by go_num, by omega, HB3, HST2.out.symm⟩
            case measure => simp [intOf]; omega
          | some q =>
            rw [hch] at hro
            obtain ⟨b3, P, o3, c3, rfl, hP, hP0, hP1, hLD, hc1, hc2⟩ := hro
            have hst := HST.out
            rw [hch, Option.some_or] at hst
            have hi2 := HI2.out
            rw [hst] at hi2
            simp only at hi2
            have HE : Hid (COut w w3 (.returned (.tuple #[.int .i64 (i : Int), .pointer (some ⟨P, 0, none⟩)])) R) := by
              rw [hi2]
              exact ⟨HB2.out.trans (b3.mono HB2.out.size), P, o3, c3, rfl, hP, hP0, hP1, hLD, hc1, hc2⟩
            clear b3 hP hP0 hP1 hLD hc1 hc2 hst hi2 hcf hch
            go_wp2
            go_ret2
            exact HE.out
        · have hj11 : j = 11 := by omega
          subst hj11
          have hi2 := HI2.out
          rw [← HJ.out, HC11.out] at hi2
          simp only at hi2
          have HI3 : Hid (fstFrom L (n - 1 - (i + 1)) (i + 1) = R) := hi2.symm
          clear hi2 hj2
          go_wp2
          go_roundw
          case rel => exact ⟨i + 1, by go_num, by omega, HB, HI3⟩
          case measure => simp [intOf]; omega
    · have hin : i = n - 1 := by omega
      have hlt' : ¬ (i : Int) < (n : Int) - 1 := by omega
      have hi2 := HI.out
      rw [hin, Nat.sub_self, HF0.out] at hi2
      have HE : Hid (COut w wr (.returned (.tuple #[.int .i64 0, .pointer none])) R) := by
        rw [← hi2]
        exact ⟨HB1.out.trans (HB.out.mono HB1.out.size), rfl⟩
      clear hi2 hlt
      go_wp2
      go_ret2
      exact HE.out
end Go.Proofs.YtkceplamaocmmaaGreatDoor
namespace Go.Proofs.YtkceplamaocmmaaGreatDoor
open Go.RowKit
set_option linter.unusedVariables false
inductive Folds : List InsD → List InsD → Prop
  | done (L : List InsD) (h : fstC L = none) : Folds L L
  | step (L : List InsD) (i k : Nat) (I M : List InsD) (h : fstC L = some (i, k, I)) (r : Folds (nextL L i k I) M) : Folds L M
theorem NdLe.refl (L : List InsD) : NdLe L L := fun o m a _ => ⟨Int.le_refl _, Int.le_refl _⟩
theorem NdLe.trans {A B C : List InsD} (h : NdLe A B) (h2 : NdLe B C) : NdLe A C := fun o m a hm => ⟨Int.le_trans (h o m a hm).1 (h2 o m a hm).1, Int.le_trans (h o m a hm).2 (h2 o m a hm).2⟩
theorem fstC_res {L : List InsD} (hL : Fine L) {i k : Nat} {I : List InsD} (h : fstC L = some (i, k, I)) : i + 1 < L.length ∧ Res L i k I := by
  obtain ⟨_, _, _, hpos⟩ := nChk_ok L hL.chk
  obtain ⟨h1, h2, h3⟩ := fstFrom_some L (L.length - 1) 0 i (k, I) h
  have hi : i + 1 < L.length := by omega
  exact ⟨hi, chg_res hL i hi k I (fstS_mem _ _ h3)⟩
theorem fjoin (b f cap m i k e X : Nat) (M I : List InsD) (oI : Option Addr) (nI cI : Nat) (w W : World) (t : TypeId) (hM : M.length = m) (hm : m ≤ 200) (h : LD w (some ⟨b, f, none⟩) M) (hI : LD w oI I) (hnI : I.length = nI) (hn2 : nI ≤ 200) (hi : i ≤ m) (hk : i + k ≤ m) (he : e = i + k) (hnX : W.heap[X]? = some (.cells #[.slice (some ⟨b, f, none⟩) i cap, .slice oI nI cI, .slice (some ⟨b, f + e * 4, none⟩) (m - e) (cap - e)] t (0, 0))) (bA : Below w.heap.size w W) :
    Calls Tryz.prog 17 #[.slice (some ⟨X, 0, none⟩) 3 3] W fun r w' => ∃ (o2 : Option Addr) (cap2 : Nat), r = .returned (.slice o2 (nextL M i k I).length cap2) ∧ LD w' o2 (nextL M i k I) ∧ (nextL M i k I).length ≤ cap2 ∧ cap2 ≤ 9223372036854775807 ∧ Below w.heap.size w w' := by
  subst he
  have h1 := h.part 0 i (by omega)
  rw [List.drop_zero, show f + 0 * 4 = f by omega] at h1
  have h2 := h.part (i + k) (m - (i + k)) (by omega)
  rw [List.take_of_length_le (by rw [List.length_drop]; omega)] at h2
  have l1 : (M.take i).length = i := by rw [List.length_take]; omega
  have l2 : (M.drop (i + k)).length = m - (i + k) := by rw [List.length_drop]; omega
  have hC := fconcat X 3 (fun j => if j = 0 then [] else if j = 1 then M.take i else if j = 2 then M.take i ++ I else M.take i ++ I ++ M.drop (i + k)) W (by omega) (some_lt hnX) rfl (fun j hj => by
    obtain rfl | rfl | rfl : j = 0 ∨ j = 1 ∨ j = 2 := by omega
    · exact ⟨some ⟨b, f, none⟩, i, cap, M.take i, fcell (v := .slice (some ⟨b, f, none⟩) i cap) hnX 0 rfl, h1.below bA, l1, by omega, rfl, by show (M.take i).length ≤ 1200; omega⟩
    · exact ⟨oI, nI, cI, I, fcell (v := .slice oI nI cI) hnX 1 rfl, hI.below bA, hnI, by omega, rfl, by show (M.take i ++ I).length ≤ 1200; rw [List.length_append]; omega⟩
    · exact ⟨some ⟨b, f + (i + k) * 4, none⟩, m - (i + k), cap - (i + k), M.drop (i + k), fcell (v := .slice (some ⟨b, f + (i + k) * 4, none⟩) (m - (i + k)) (cap - (i + k))) hnX 2 rfl, h2.below bA, l2, by omega, rfl, by show (M.take i ++ I ++ M.drop (i + k)).length ≤ 1200; rw [List.length_append, List.length_append]; omega⟩)
  refine hC.mono ?_
  rintro r w3 ⟨o3, c3, rfl, hown, b3⟩
  have h3 : Below w.heap.size w w3 := bA.trans (b3.mono bA.size)
  have hok : ∀ d ∈ nextL M i k I, d.ok w3 := fun d hd => by
    unfold nextL at hd
    rcases List.mem_append.1 hd with hd | hd
    · rcases List.mem_append.1 hd with hd | hd
      · exact (h.1 d (List.take_subset _ _ hd)).below h3
      · exact (hI.1 d hd).below h3
    · exact (h.1 d (List.drop_subset _ _ hd)).below h3
  obtain ⟨hld, hc1, hc2⟩ := ld_own (L := nextL M i k I) hown rfl hok
  exact ⟨o3, c3, rfl, hld, hc1, by unfold maxLen at hc2; omega, h3⟩
theorem ffolded (o : Option Addr) (cap : Nat) (L : List InsD) (w : World) (h : LD w o L) (hcap : L.length ≤ cap ∧ cap ≤ 9223372036854775807) (hL : Fine L) (hF : FA w) :
    Calls Tryz.prog 8 #[.slice o L.length cap] w fun r w' => ∃ (M : List InsD) (o' : Option Addr) (cap' : Nat), r = .returned (.slice o' M.length cap') ∧ LD w' o' M ∧ (M.length ≤ cap' ∧ cap' ≤ 9223372036854775807) ∧ Folds L M ∧ Fine M ∧ M.length ≤ L.length ∧ NdLe M L ∧ Below w.heap.size w w' := by
  have hpos := (nChk_ok L hL.chk).2.2.2
  have H0 : Hid (LD w o L ∧ Fine L) := ⟨h, hL⟩
  have HFF : Hid (FA w) := hF
  obtain ⟨n, hn⟩ : ∃ n, n = L.length := ⟨_, rfl⟩
  rw [← hn] at hcap ⊢
  have HN : Hid (L.length = n) := hn.symm
  clear h hL hF hn
  go_enter Tryz.func8, Tryz.ntmps8
  go_wp2
  go_loopw [0] (fun lv wr => ∃ (M : List InsD) (o' : Option Addr) (m cap' : Nat), lv = .slice o' m cap' ∧ m ≤ cap' ∧ cap' ≤ 9223372036854775807 ∧ Hid (M.length = m) ∧ Hid (LD wr o' M ∧ Fine M ∧ M.length ≤ L.length ∧ NdLe M L ∧ (∀ N, Folds M N → Folds L N)) ∧ Hid (Below w.heap.size w wr)) (fun lv _ => (match lv with | .slice _ m _ => m | _ => 0))
  case atStart => exact ⟨L, o, n, cap, rfl, hcap.1, hcap.2, HN, ⟨H0.out.1, H0.out.2, Nat.le_refl _, NdLe.refl _, fun N hN => hN⟩, Below.refl _ _⟩
  case round =>
    obtain ⟨M, o', m, cap', rfl, hc1, hc2, HM, HI, HB⟩ := hrel
    obtain ⟨hld, hfine, hle, hnd, hfold⟩ := HI.out
    have hm200 := (nChk_ok M hfine.chk).1
    rw [HM.out] at hm200
    have hf := ffirst o' cap' M wr hld (by rw [HM.out]; exact ⟨hc1, hc2⟩) hfine (HFF.out.under HB.out)
    rw [HM.out] at hf
    have HFI : Hid (type_of% hf) := hf
    clear hld hfine hle hnd hfold hf
    go_wp2_with fail
    refine HFI.out.mono ?_
    intro r w2 hco
    cases hc : fstC M with
    | none =>
      rw [hc] at hco
      obtain ⟨b2, rfl⟩ := hco
      have HE : Hid (∃ (M_1 : List InsD) (o'_1 : Option Addr) (cap'_1 : Nat), Ending.returned (.slice o' m cap') = Ending.returned (.slice o'_1 M_1.length cap'_1) ∧ LD w2 o'_1 M_1 ∧ (M_1.length ≤ cap'_1 ∧ cap'_1 ≤ 9223372036854775807) ∧ Folds L M_1 ∧ Fine M_1 ∧ M_1.length ≤ n ∧ NdLe M_1 L ∧ Below w.heap.size w w2) :=
        ⟨M, o', cap', by rw [HM.out], HI.out.1.below b2, by rw [HM.out]; exact ⟨hc1, hc2⟩, HI.out.2.2.2.2 M (.done M hc), HI.out.2.1, by rw [← HN.out]; exact HI.out.2.2.1, HI.out.2.2.2.1, HB.out.trans (b2.mono HB.out.size)⟩
      clear b2 hc HFI HI
      go_wp2
      go_ret
      exact HE.out
    | some q =>
      obtain ⟨i, k, I⟩ := q
      rw [hc] at hco
      obtain ⟨b2, P, oI, cI, rfl, hP, hP0, hP1, hLI, hI1, hI2⟩ := hco
      simp only at hP0 hP1 hLI hI1 hI2
      obtain ⟨hi1, hres⟩ := fstC_res HI.out.2.1 hc
      have hlt := hres.lt
      rw [HM.out] at hlt hi1
      obtain ⟨b, f, rfl⟩ : ∃ b f, o' = some ⟨b, f, none⟩ := by
        rcases HI.out.1.2 with h0 | ⟨b, f, e, _⟩
        · have := HM.out
          rw [h0] at this
          simp at this
          omega
        · exact ⟨b, f, e⟩
      have hshort := hres.short
      rw [HM.out] at hshort
      have hIlen : I.length ≤ 200 := by
        have : (nextL M i k I).length ≥ I.length := by unfold nextL; simp; omega
        omega
      obtain ⟨e, he, he2⟩ : ∃ e, e = ((i : Int) + (k : Int)).toNat ∧ e = i + k := ⟨_, rfl, by omega⟩
      have HJ : Hid (∀ (X : Nat) (W : World) (t : TypeId), W.heap[X]? = some (.cells #[.slice (some ⟨b, f, none⟩) i cap', .slice oI I.length cI, .slice (some ⟨b, f + e * 4, none⟩) (m - e) (cap' - e)] t (0, 0)) → Below w2.heap.size w2 W → _) := fun X W t hx bb => fjoin b f cap' m i k e X M I oI I.length cI w2 W t HM.out hm200 (HI.out.1.below b2) hLI rfl hIlen (by omega) (by omega) he2 hx bb
      rw [he] at HJ
      have HC : Hid (∀ W, Below w2.heap.size w2 W → W.cell? ⟨P, 0, none⟩ = some (.int .i64 (k : Int)) ∧ W.cell? ⟨P, 1, none⟩ = some (.slice oI I.length cI)) := fun W bb => ⟨(bb.cell (p := ⟨P, 0, none⟩) hP).trans hP0, (bb.cell (p := ⟨P, 1, none⟩) hP).trans hP1⟩
      have HNX : Hid (Fine (nextL M i k I) ∧ (nextL M i k I).length ≤ L.length ∧ NdLe (nextL M i k I) L ∧ ∀ N, Folds (nextL M i k I) N → Folds L N) := ⟨hres.fine, Nat.le_trans (Nat.le_of_lt hres.short) HI.out.2.2.1, hres.nd.trans HI.out.2.2.2.1, fun N hN => HI.out.2.2.2.2 N (.step M i k I N hc hN)⟩
      have HB2 : Hid (Below w.heap.size w w2) := HB.out.trans (b2.mono HB.out.size)
      obtain ⟨X, hX⟩ : ∃ X, X = nextL M i k I := ⟨_, rfl⟩
      rw [← hX] at HJ HNX hshort
      generalize I.length = nI at *
      have hk0 : (0 : Int) ≤ (i : Int) := by omega
      have hk1 : (i : Int) ≤ (cap' : Int) := by omega
      have hk2 : (0 : Int) ≤ (i : Int) + (k : Int) := by omega
      have hk3 : (i : Int) + (k : Int) ≤ (m : Int) := by omega
      have hk4 : ¬ cap' = ((i : Int) + (k : Int)).toNat := by omega
      have hw1 : IntKind.i64.wrap ((i : Int) + (k : Int)) = (i : Int) + (k : Int) := by rw [IntKind.wrap_i64]; omega
      clear b2 hc HFI HI hLI hres hX
      go_wp2_with fail
      go_region_held3 (fun w' => w'.cell? ⟨P, 0, none⟩ = some (.int .i64 (k : Int)) ∧ w'.cell? ⟨P, 1, none⟩ = some (.slice oI nI cI)) (first | (exact HC.out _ fch) | go_keep) ((go_at_call 17; refine (HJ.out _ _ _ (by exact new_block _ _) fch).mono ?_; rintro r w4 ⟨o4, c4, rfl, hl4, hc4, hm4, b4⟩; have HL4 : Hid (type_of% hl4) := hl4; have HB4 : Hid (type_of% b4) := b4; clear hl4 b4))
      all_goals
        go_wp2
        go_roundw
        case rel => exact ⟨X, o4, X.length, c4, rfl, hc4, hm4, rfl, ⟨HL4.out, HNX.out⟩, HB2.out.trans (HB4.out.mono HB2.out.size)⟩
        case measure => exact hshort
end Go.Proofs.YtkceplamaocmmaaGreatDoor
