/-
  Folding: the lowest place at which a rule applies.
-/
import Derived.Test.YtkceplamaocmmaaDoorFD9
namespace Go.Proofs.YtkceplamaocmmaaDoor
open Go.RowKit
set_option linter.unusedVariables false

def ruleVals : Array Value := #[.func (.func 27) #[] #[], .func (.func 28) #[] #[], .func (.func 29) #[] #[], .func (.func 30) #[] #[], .func (.func 31) #[] #[], .func (.func 32) #[] #[], .func (.func 33) #[] #[], .func (.func 34) #[] #[], .func (.func 35) #[] #[], .func (.func 36) #[] #[], .func (.func 37) #[] #[]]
set_option maxHeartbeats 1000000 in
set_option maxRecDepth 1000000 in
theorem frules (w : World) : Calls Tryd.prog 22 #[] w fun r w' => ∃ t, r = .returned (.slice (some ⟨w.heap.size, 0, none⟩) 11 11) ∧ w' = w.alloc (.cells ruleVals t) := by
  go_enter Tryd.func22, Tryd.ntmps22
  go_wp2
  go_ret
  exact ⟨_, rfl, rfl⟩
theorem fcall_enter {P : Program} {f : FuncId} {fn : Func} {c : Code} (hf : P.funcs[f]? = some fn) (hname : (fn.name == "runtime.NumGoroutine") = false) (hb : fn.body = some c) (args : Array Value) (w : World) : (callFunc f args).run P w = .ok (.enter f args) w := by
  simp only [callFunc, Sem.run_bind, run_program, Result.andThen_ok, hf, hname, hb]
  rfl
theorem rule_any (o : Option Addr) (cap : Nat) (L : List InsD) (i : Nat) (w : World) (h : LD w o L) (hcap : L.length ≤ cap ∧ cap ≤ 9223372036854775807) (hL : Fine L) (hi : i + 1 < L.length) (hF : FA w) (j : Nat) (hj : j < 11) : ∃ fid, ruleVals[j]? = some (.func (.func fid) #[] #[]) ∧ (∀ args W, Sem.run Tryd.prog (callFunc fid args) W = .ok (.enter fid args) W) ∧ ∀ W, Below w.heap.size w W → Calls Tryd.prog fid #[.slice o L.length cap, .int .i64 (i : Int)] W fun r w' => ROut W w' r ((chgs L i)[j]'hj) := by
  have hn := (nChk_ok L hL.chk).1
  have hi2 : isC (L[i+1]!).op = true → i + 2 < L.length := fun e => by
    have := fine_last hL
    have hne : i + 1 ≠ L.length - 1 := fun e2 => by
      rw [← e2, opAt_get L (i+1) hi] at this
      rw [getElem!_pos L (i+1) hi, this] at e
      cases e
    omega
  obtain rfl | rfl | rfl | rfl | rfl | rfl | rfl | rfl | rfl | rfl | rfl : j = 0 ∨ j = 1 ∨ j = 2 ∨ j = 3 ∨ j = 4 ∨ j = 5 ∨ j = 6 ∨ j = 7 ∨ j = 8 ∨ j = 9 ∨ j = 10 := by omega
  · exact ⟨_, rfl, fcall_enter Tryd.func27 rfl rfl, fun W bb => rule0 o cap L i W (h.below bb) hn hi⟩
  · exact ⟨_, rfl, fcall_enter Tryd.func28 rfl rfl, fun W bb => rule1 o cap L i W (h.below bb) hn hcap hi (hF.under bb)⟩
  · exact ⟨_, rfl, fcall_enter Tryd.func29 rfl rfl, fun W bb => rule2 o cap L i W (h.below bb) hn hcap hi hi2 (hF.under bb)⟩
  · exact ⟨_, rfl, fcall_enter Tryd.func30 rfl rfl, fun W bb => rule3 o cap L i W (h.below bb) hn hi⟩
  · exact ⟨_, rfl, fcall_enter Tryd.func31 rfl rfl, fun W bb => rule4 o cap L i W (h.below bb) hn hi⟩
  · exact ⟨_, rfl, fcall_enter Tryd.func32 rfl rfl, fun W bb => rule5 o cap L i W (h.below bb) hL hi (hF.under bb)⟩
  · exact ⟨_, rfl, fcall_enter Tryd.func33 rfl rfl, fun W bb => rule6 o cap L i W (h.below bb) hn hi⟩
  · exact ⟨_, rfl, fcall_enter Tryd.func34 rfl rfl, fun W bb => rule7 o cap L i W (h.below bb) hcap hL hi (hF.under bb)⟩
  · exact ⟨_, rfl, fcall_enter Tryd.func35 rfl rfl, fun W bb => rule8 o cap L i W (h.below bb) hn hi⟩
  · exact ⟨_, rfl, fcall_enter Tryd.func36 rfl rfl, fun W bb => rule9 o cap L i W (h.below bb) hn hi⟩
  · exact ⟨_, rfl, fcall_enter Tryd.func37 rfl rfl, fun W bb => rule10 o cap L i W (h.below bb) hn hi⟩
/-- What firstChange answers. -/
def COut (w w' : World) (r : Ending) (c : Option (Nat × Nat × List InsD)) : Prop :=
  Below w.heap.size w w' ∧ match c with
  | none => r = .returned (.tuple #[.int .i64 0, .pointer none])
  | some q => ∃ (P : Nat) (o : Option Addr) (cap : Nat), r = .returned (.tuple #[.int .i64 q.1, .pointer (some ⟨P, 0, none⟩)]) ∧ P < w'.heap.size ∧ w'.cell? ⟨P, 0, none⟩ = some (.int .i64 q.2.1) ∧ w'.cell? ⟨P, 1, none⟩ = some (.slice o q.2.2.length cap) ∧ LD w' o q.2.2 ∧ q.2.2.length ≤ cap ∧ cap ≤ 9223372036854775807
theorem fstS_step {α : Type} (l : List (Option α)) (j : Nat) (h : j < l.length) : fstS (l.drop j) = (l[j]).or (fstS (l.drop (j + 1))) := by
  rw [List.drop_eq_getElem_cons h]
  cases l[j] <;> rfl
set_option maxHeartbeats 8000000 in
set_option maxRecDepth 1000000 in
theorem ffirst (o : Option Addr) (cap : Nat) (L : List InsD) (w : World) (h : LD w o L) (hcap : L.length ≤ cap ∧ cap ≤ 9223372036854775807) (hL : Fine L) (hF : FA w) :
    Calls Tryd.prog 13 #[.slice o L.length cap] w fun r w' => COut w w' r (fstC L) := by
  obtain ⟨hn, _, _, hpos⟩ := nChk_ok L hL.chk
  have HR : Hid (∀ i, i + 1 < L.length → ∀ j (hj : j < 11), _) := fun i hi j hj => rule_any o cap L i w h hcap hL hi hF j hj
  have HS : Hid (∀ i f, fstFrom L (f + 1) i = match chgAt L i with | some q => some (i, q) | none => fstFrom L f (i + 1)) := fun i f => rfl
  have HC : Hid (∀ i j (hj : j < 11), fstS ((chgs L i).drop j) = ((chgs L i)[j]'hj).or (fstS ((chgs L i).drop (j + 1)))) := fun i j hj => fstS_step (chgs L i) j hj
  have HC11 : Hid (∀ i, fstS ((chgs L i).drop 11) = none) := fun i => rfl
  have HC0 : Hid (∀ i, fstS ((chgs L i).drop 0) = chgAt L i) := fun i => rfl
  obtain ⟨R, hR⟩ : ∃ R, R = fstC L := ⟨_, rfl⟩
  rw [← hR]
  have HRR : Hid (R = fstFrom L (L.length - 1) 0) := hR
  have HF0 : Hid (∀ i, fstFrom L 0 i = none) := fun i => rfl
  have hw1 : IntKind.i64.wrap ((L.length : Int) - 1) = (L.length : Int) - 1 := by rw [IntKind.wrap_i64]; omega
  generalize L.length = n at *
  clear h hL hF hR
  go_enter Tryd.func13, Tryd.ntmps13
  go_wp2_with fail
  refine (frules w).mono ?_
  rintro r w1 ⟨t, rfl, rfl⟩
  have b1 : Below w.heap.size w (w.alloc (.cells ruleVals t)) := (Below.refl _ _).alloc (Nat.le_refl _) _
  have HN : Hid ((w.alloc (.cells ruleVals t)).heap[w.heap.size]? = some (.cells ruleVals t)) := new_block w _
  have HB1 : Hid (type_of% b1) := b1
  have hsz : (w.alloc (.cells ruleVals t)).heap.size = w.heap.size + 1 := by simp
  have HSZ : Hid (type_of% hsz) := hsz
  clear b1 hsz
  obtain ⟨v, hv⟩ : ∃ v, v = w.alloc (.cells ruleVals t) := ⟨_, rfl⟩
  rw [← hv] at HN HB1 HSZ ⊢
  clear hv
  go_wp2
  go_loopw [13] (fun iv wr => ∃ i : Nat, iv = .int .i64 (i : Int) ∧ i ≤ n - 1 ∧ Hid (Below v.heap.size v wr) ∧ Hid (fstFrom L (n - 1 - i) i = R)) (fun iv _ => n - 1 - (intOf iv).toNat)
  case atStart => exact ⟨0, rfl, by omega, Below.refl _ _, HRR.out.symm⟩
  case round =>
    obtain ⟨i, rfl, hi, HB, HI⟩ := hrel
    by_cases hlt : i < n - 1
    · have hlt' : (i : Int) < (n : Int) - 1 := by omega
      have hfs := HS.out i (n - 1 - (i + 1))
      rw [show n - 1 - (i + 1) + 1 = n - 1 - i by omega, HI.out] at hfs
      have HI2 : Hid (type_of% hfs) := hfs
      clear hfs
      go_wp2
      go_loopw [18] (fun jv wr => ∃ j : Nat, jv = .int .i64 (j : Int) ∧ j ≤ 11 ∧ Hid (Below v.heap.size v wr) ∧ Hid (fstS ((chgs L i).drop j) = chgAt L i)) (fun jv _ => 11 - (intOf jv).toNat)
      case atStart => exact ⟨0, rfl, by omega, HB, HC0.out i⟩
      case round =>
        clear HB
        obtain ⟨j, rfl, hj, HB, HJ⟩ := hrel
        by_cases hj2 : j < 11
        · obtain ⟨fid, hfid, hcf, hcall⟩ := HR.out i (by omega) j hj2
          have hcell : _root_.Go.World.cell? _ ⟨w.heap.size, j, none⟩ = _ := (HB.out.cell (p := ⟨w.heap.size, j, none⟩) (by show w.heap.size < v.heap.size; rw [HSZ.out]; omega)).trans (fcell HN.out j hfid)
          have HCA : Hid (type_of% hcall) := hcall
          have hst := HC.out i j hj2
          rw [HJ.out] at hst
          have HST : Hid (type_of% hst) := hst
          have hB2 : Below w.heap.size w _ := HB1.out.trans (HB.out.mono HB1.out.size)
          have HB2 : Hid (type_of% hB2) := hB2
          have hjj : (j : Int) < 11 := by omega
          have hjj0 : (0 : Int) ≤ (j : Int) := by omega
          clear hcall hst hfid hB2
          go_wp2_with fail
          refine (HCA.out _ HB2.out).mono ?_
          intro r w3 hro
          cases hch : (chgs L i)[j]'hj2 with
          | none =>
            rw [hch] at hro
            obtain ⟨b3, rfl⟩ := hro
            have HB3 : Hid (Below v.heap.size v w3) := HB.out.trans (b3.mono HB.out.size)
            have hst := HST.out
            rw [hch, Option.none_or] at hst
            have HST2 : Hid (type_of% hst) := hst
            clear b3 hst hcf hch
            go_wp2
            go_roundw
            case rel => exact ⟨j + 1, by go_num, by omega, HB3, HST2.out.symm⟩
            case measure => simp [intOf]; omega
          | some q =>
            rw [hch] at hro
            obtain ⟨b3, P, o3, c3, rfl, hP, hP0, hP1, hLD, hc1, hc2⟩ := hro
            have hst := HST.out
            rw [hch, Option.some_or] at hst
            have hi2 := HI2.out
            rw [hst] at hi2
            simp only at hi2
            have HE : Hid (COut w w3 (.returned (.tuple #[.int .i64 (i : Int), .pointer (some ⟨P, 0, none⟩)])) R) := by
              rw [hi2]
              exact ⟨HB2.out.trans (b3.mono HB2.out.size), P, o3, c3, rfl, hP, hP0, hP1, hLD, hc1, hc2⟩
            clear b3 hP hP0 hP1 hLD hc1 hc2 hst hi2 hcf hch
            go_wp2
            go_ret2
            exact HE.out
        · have hj11 : j = 11 := by omega
          subst hj11
          have hi2 := HI2.out
          rw [← HJ.out, HC11.out] at hi2
          simp only at hi2
          have HI3 : Hid (fstFrom L (n - 1 - (i + 1)) (i + 1) = R) := hi2.symm
          clear hi2 hj2
          go_wp2
          go_roundw
          case rel => exact ⟨i + 1, by go_num, by omega, HB, HI3⟩
          case measure => simp [intOf]; omega
    · have hin : i = n - 1 := by omega
      have hlt' : ¬ (i : Int) < (n : Int) - 1 := by omega
      have hi2 := HI.out
      rw [hin, Nat.sub_self, HF0.out] at hi2
      have HE : Hid (COut w wr (.returned (.tuple #[.int .i64 0, .pointer none])) R) := by
        rw [← hi2]
        exact ⟨HB1.out.trans (HB.out.mono HB1.out.size), rfl⟩
      clear hi2 hlt
      go_wp2
      go_ret2
      exact HE.out
end Go.Proofs.YtkceplamaocmmaaDoor
