/-
 What the program's own valid.Head asks of a module.
 What the program's own valid.Head asks of a module's exports.
 What the program's own valid.Head asks of a module's start.
-/
import Derived.Test.YtlfihndbnaaodaaGreatDoorIQW
set_option maxHeartbeats 4000000
set_option maxRecDepth 1000000
namespace Go.Proofs.YtlfihndbnaaodaaGreatDoor
open Go.RowKit
set_option linter.unusedVariables false
theorem all_snoc {α : Type} (f : α → Bool) (L : List α) (j : Nat) (h : j < L.length) (ht : (L.take j).all f = true) (hx : f L[j] = true) : (L.take (j + 1)).all f = true := by
 rw [List.take_succ_eq_append_getElem h, List.all_append, ht]
 simp [hx]
theorem all_no {α : Type} (f : α → Bool) (L : List α) (j : Nat) (h : j < L.length) (hx : f L[j] = false) : L.all f = false := by
 rw [List.all_eq_false]
 exact ⟨L[j], List.getElem_mem h, by rw [hx]; simp⟩
theorem types_there (oT oI oF oG oE oL oD : Option Addr) (nT kT nI kI nF kF nG kG nE kE nL kL nD kD : Nat) (t p q s : Int) (w : World) (LI : List NamD) (RI : Hid (RowsOf w 2 NamD.cells NamD.ok oI kI LI)) (HLI : Hid (LI.length = nI)) (LF : List FunD) (RF : Hid (RowsOf w 3 FunD.cells FunD.ok oF kF LF)) (HLF : Hid (LF.length = nF)) (hT : nT ≤ 9223372036854775807) (bb : Bool) (HR : Hid (bb = (LI.all (fun d => decide (d.n < (nT : Int))) && LF.all (fun d => decide (d.t < (nT : Int)))))) :
  Calls Tryz.prog 41 #[.agg #[.slice oT nT kT, .slice oI nI kI, .slice oF nF kF, .int .i64 t, .int .i64 p, .int .i64 q, .slice oG nG kG, .slice oE nE kE, .int .i64 s, .slice oL nL kL, .slice oD nD kD]] w fun r w' => r = .returned (.bool bb) ∧ Below w.heap.size w w' := by
 have mI : kI ≤ 9223372036854775807 := by have := RI.out.most; unfold maxLen at this; omega
 have cI : nI ≤ kI := by have := RI.out.le; rw [HLI.out] at this; exact this
 have mF : kF ≤ 9223372036854775807 := by have := RF.out.most; unfold maxLen at this; omega
 have cF : nF ≤ kF := by have := RF.out.le; rw [HLF.out] at this; exact this
 have HB0 : Hid (Below (w.heap.size + 1) (w.alloc (.cells #[.slice oT nT kT, .slice oI nI kI, .slice oF nF kF, .int .i64 t, .int .i64 p, .int .i64 q, .slice oG nG kG, .slice oE nE kE, .int .i64 s, .slice oL nL kL, .slice oD nD kD] 30)) (w.alloc (.cells #[.slice oT nT kT, .slice oI nI kI, .slice oF nF kF, .int .i64 t, .int .i64 p, .int .i64 q, .slice oG nG kG, .slice oE nE kE, .int .i64 s, .slice oL nL kL, .slice oD nD kD] 30))) := Below.refl _ _
 have HBW : Hid (∀ w', Below (w.heap.size + 1) (w.alloc (.cells #[.slice oT nT kT, .slice oI nI kI, .slice oF nF kF, .int .i64 t, .int .i64 p, .int .i64 q, .slice oG nG kG, .slice oE nE kE, .int .i64 s, .slice oL nL kL, .slice oD nD kD] 30)) w' → Below w.heap.size w w') := fun w' b => ((Below.refl _ _).alloc (Nat.le_refl _) _ : Below w.heap.size w (w.alloc (.cells #[.slice oT nT kT, .slice oI nI kI, .slice oF nF kF, .int .i64 t, .int .i64 p, .int .i64 q, .slice oG nG kG, .slice oE nE kE, .int .i64 s, .slice oL nL kL, .slice oD nD kD] 30))).trans (b.mono (Nat.le_succ _))
 obtain ⟨c0, c1, c2, c3, c4, c5, c6, c7, c8, c9, c10⟩ := cells11 HB0.out
 go_enter Tryz.func41, Tryz.ntmps41
 go_wp2
 go_loopw [10] (fun iv wr => ∃ j : Nat, iv = .int .i64 (j : Int) ∧ j ≤ nI ∧ Hid ((LI.take j).all (fun d => decide (d.n < (nT : Int))) = true) ∧ Hid (Below (w.heap.size + 1) (w.alloc (.cells #[.slice oT nT kT, .slice oI nI kI, .slice oF nF kF, .int .i64 t, .int .i64 p, .int .i64 q, .slice oG nG kG, .slice oE nE kE, .int .i64 s, .slice oL nL kL, .slice oD nD kD] 30)) wr)) (fun iv _ => nI - (intOf iv).toNat)
 case atStart => exact ⟨0, rfl, by omega, rfl, HB0⟩
 case round =>
  obtain ⟨j, rfl, hj, HA, HBr⟩ := hrel
  clear c0 c1 c2 c3 c4 c5 c6 c7 c8 c9 c10
  by_cases hlt : j < nI
  ·skip
   have hxI : j < LI.length := by rw [HLI.out]; exact hlt
   obtain ⟨b, f, rfl, hbN, hcl⟩ := RI.out.at'.resolve_left (fun e => by rw [e] at hxI; exact absurd hxI (by simp))
   have HC : Hid (∀ r, r < 2 → wr.cell? ⟨b, f + j * 2 + r, none⟩ = (NamD.cells LI[j])[r]?) := fun r hr => by
    rw [(HBW.out _ HBr.out).cell (p := ⟨b, f + j * 2 + r, none⟩) hbN]
    exact hcl j hxI r hr
   have HXI : Hid (j < LI.length) := hxI
   generalize hd : LI[j] = d at HC
   have HDE : Hid (LI[j]'HXI.out = d) := hd
   have hki0 : (0 : Int) ≤ (j : Int) := by omega
   have hki1 : (j : Int) < (nI : Int) := by omega
   have hwz := HBr.out.size
   clear hcl hxI hd
   obtain ⟨ds, dn⟩ := d
   have e0 : wr.cell? ⟨b, f + j * 2, none⟩ = some (.string ds) := HC.out 0 (by omega)
   have e1 : wr.cell? ⟨b, f + j * 2 + 1, none⟩ = some (.int .i64 dn) := HC.out 1 (by omega)
   have hbw : Below wr.heap.size wr (wr.alloc (.cells #[.string ds, .int .i64 dn] 92)) := (Below.refl _ _).alloc (Nat.le_refl _) _
   have hB2 := HBr.out.trans (hbw.mono (by simpa using hwz : w.heap.size + 1 ≤ wr.heap.size))
   have HB2 : Hid (Below _ _ _) := hB2
   clear hB2
   obtain ⟨c0, c1, c2, c3, c4, c5, c6, c7, c8, c9, c10⟩ := cells11 HB2.out
   clear hbw HC
   by_cases hdn : dn < (nT : Int)
   ·have hdd : decide ((nT : Int) ≤ dn) = false := decide_eq_false (by omega)
    have HA2 : Hid ((LI.take (j + 1)).all (fun d => decide (d.n < (nT : Int))) = true) := all_snoc _ _ _ HXI.out HA.out (by rw [HDE.out]; exact decide_eq_true hdn)
    go_wp2
    go_roundw
    case rel => exact ⟨j + 1, by go_num, by omega, HA2, HB2⟩
    case measure => simp [intOf]; omega
   ·have hdd : decide ((nT : Int) ≤ dn) = true := decide_eq_true (by omega)
    have HF : Hid (bb = false) := by
     unfold Hid
     rw [HR.out, all_no _ _ _ HXI.out (by rw [HDE.out]; exact decide_eq_false hdn)]
     rfl
    go_wp2
    refine bodyPost_ret (results_tmp rfl _ _ _) rfl ?_
    exact ⟨by rw [HF.out]; rfl, HBW.out _ HB2.out⟩
  ·have HAI : Hid (LI.all (fun d => decide (d.n < (nT : Int))) = true) := by
    have h := HA.out
    rw [List.take_of_length_le (by rw [HLI.out]; omega)] at h
    exact h
   obtain ⟨c0, c1, c2, c3, c4, c5, c6, c7, c8, c9, c10⟩ := cells11 HBr.out
   obtain ⟨v, hv⟩ : ∃ v, v = wr := ⟨_, rfl⟩
   subst hv
   clear HA
   go_wp2
   go_loopw [24] (fun iv wr => ∃ j : Nat, iv = .int .i64 (j : Int) ∧ j ≤ nF ∧ Hid ((LF.take j).all (fun d => decide (d.t < (nT : Int))) = true) ∧ Hid (Below (w.heap.size + 1) (w.alloc (.cells #[.slice oT nT kT, .slice oI nI kI, .slice oF nF kF, .int .i64 t, .int .i64 p, .int .i64 q, .slice oG nG kG, .slice oE nE kE, .int .i64 s, .slice oL nL kL, .slice oD nD kD] 30)) wr)) (fun iv _ => nF - (intOf iv).toNat)
   case atStart => exact ⟨0, rfl, by omega, rfl, HBr⟩
   case round =>
   clear HBr c0 c1 c2 c3 c4 c5 c6 c7 c8 c9 c10
   obtain ⟨j, rfl, hj, HA, HBr⟩ := hrel
   by_cases hlt : j < nF
   ·skip
    have hxF : j < LF.length := by rw [HLF.out]; exact hlt
    obtain ⟨b, f, rfl, hbN, hcl⟩ := RF.out.at'.resolve_left (fun e => by rw [e] at hxF; exact absurd hxF (by simp))
    have HC : Hid (∀ r, r < 3 → wr.cell? ⟨b, f + j * 3 + r, none⟩ = (FunD.cells LF[j])[r]?) := fun r hr => by
     rw [(HBW.out _ HBr.out).cell (p := ⟨b, f + j * 3 + r, none⟩) hbN]
     exact hcl j hxF r hr
    have HXF : Hid (j < LF.length) := hxF
    generalize hd : LF[j] = d at HC
    have HDE : Hid (LF[j]'HXF.out = d) := hd
    have hki0 : (0 : Int) ≤ (j : Int) := by omega
    have hki1 : (j : Int) < (nF : Int) := by omega
    have hwz := HBr.out.size
    clear hcl hxF hd
    obtain ⟨dt, ⟨lo, ln, lc, lx⟩, bo, bc, bb'⟩ := d
    have e0 : wr.cell? ⟨b, f + j * 3, none⟩ = some (.int .i64 dt) := HC.out 0 (by omega)
    have e1 : wr.cell? ⟨b, f + j * 3 + 1, none⟩ = some (.slice lo ln lc) := HC.out 1 (by omega)
    have e2 : wr.cell? ⟨b, f + j * 3 + 2, none⟩ = some (.slice bo bb'.length bc) := HC.out 2 (by omega)
    have hbw : Below wr.heap.size wr (wr.alloc (.cells #[.int .i64 dt, .slice lo ln lc, .slice bo bb'.length bc] 59)) := (Below.refl _ _).alloc (Nat.le_refl _) _
    have hB2 := HBr.out.trans (hbw.mono (by simpa using hwz : w.heap.size + 1 ≤ wr.heap.size))
    have HB2 : Hid (Below _ _ _) := hB2
    clear hB2
    obtain ⟨c0, c1, c2, c3, c4, c5, c6, c7, c8, c9, c10⟩ := cells11 HB2.out
    clear hbw HC
    by_cases hdn : dt < (nT : Int)
    ·have hdd : decide ((nT : Int) ≤ dt) = false := decide_eq_false (by omega)
     have HA2 : Hid ((LF.take (j + 1)).all (fun d => decide (d.t < (nT : Int))) = true) := all_snoc _ _ _ HXF.out HA.out (by rw [HDE.out]; exact decide_eq_true hdn)
     go_wp2
     go_roundw
     case rel => exact ⟨j + 1, by go_num, by omega, HA2, HB2⟩
     case measure => simp [intOf]; omega
    ·have hdd : decide ((nT : Int) ≤ dt) = true := decide_eq_true (by omega)
     have HF : Hid (bb = false) := by
      unfold Hid
      rw [HR.out, all_no _ LF _ HXF.out (by rw [HDE.out]; exact decide_eq_false hdn), Bool.and_false]
     go_wp2
     refine bodyPost_ret (results_tmp rfl _ _ _) rfl ?_
     exact ⟨by rw [HF.out]; rfl, HBW.out _ HB2.out⟩
   ·have HAF : Hid (LF.all (fun d => decide (d.t < (nT : Int))) = true) := by
     have h := HA.out
     rw [List.take_of_length_le (by rw [HLF.out]; omega)] at h
     exact h
    have HF : Hid (bb = true) := by unfold Hid; rw [HR.out, HAI.out, HAF.out]; rfl
    go_wp2
    go_ret
    exact ⟨by rw [HF.out]; rfl, HBW.out _ HBr.out⟩
end Go.Proofs.YtlfihndbnaaodaaGreatDoor
namespace Go.Proofs.YtlfihndbnaaodaaGreatDoor
open Go.RowKit
set_option linter.unusedVariables false
def expErr (N : Int) : List NamD → List NamD → Int
 | _, [] => 0
 | seen, d :: r => if N ≤ d.n then 8 else if seen.any (fun o => o.s.toList == d.s.toList) then 12 else expErr N (seen ++ [d]) r
theorem expErr_at (N : Int) (L : List NamD) (j : Nat) (h : j < L.length) : expErr N (L.take j) (L.drop j) = if N ≤ L[j].n then 8 else if (L.take j).any (fun o => o.s.toList == L[j].s.toList) then 12 else expErr N (L.take (j + 1)) (L.drop (j + 1)) := by
 rw [List.drop_eq_getElem_cons h, List.take_succ_eq_append_getElem h]
 rfl
theorem any_snoc {α : Type} (f : α → Bool) (L : List α) (j : Nat) (h : j < L.length) (ht : (L.take j).any f = false) (hx : f L[j] = false) : (L.take (j + 1)).any f = false := by
 rw [List.take_succ_eq_append_getElem h, List.any_append, ht]
 simp [hx]
theorem cells2 {w w' : World} {c0 c1 : Value} {t : TypeId} (h : Below (w.heap.size + 1) (w.alloc (.cells #[c0, c1] t)) w') : w'.cell? ⟨w.heap.size, 0, none⟩ = some c0 ∧ w'.cell? ⟨w.heap.size, 1, none⟩ = some c1 := by
 have := (h.block w.heap.size (Nat.lt_succ_self _)).trans (heap_alloc_new w _)
 simp [World.cell?, this]
theorem any_yes {α : Type} (f : α → Bool) (L : List α) (j k : Nat) (h : j < L.length) (hk : j < k) (hx : f L[j] = true) : (L.take k).any f = true := by
 rw [List.any_eq_true]
 exact ⟨L[j], List.mem_take_iff_getElem.2 ⟨j, by omega, rfl⟩, hx⟩
theorem check_exports (oT oI oF oG oE oL oD : Option Addr) (nT kT nI kI nF kF nG kG nE kE nL kL nD kD : Nat) (t p q s : Int) (w : World) (LE : List NamD) (RE : Hid (RowsOf w 2 NamD.cells NamD.ok oE kE LE)) (HLE : Hid (LE.length = nE)) (HP : Hid (∀ d ∈ LE, 0 ≤ d.n)) (hI : nI ≤ 16) (hF : nF ≤ 16) (z : Int) (HR : Hid (expErr ((nI : Int) + (nF : Int)) [] LE = z)) :
  Calls Tryz.prog 42 #[.agg #[.slice oT nT kT, .slice oI nI kI, .slice oF nF kF, .int .i64 t, .int .i64 p, .int .i64 q, .slice oG nG kG, .slice oE nE kE, .int .i64 s, .slice oL nL kL, .slice oD nD kD]] w fun r w' => r = .returned (.int .i64 z) ∧ Below w.heap.size w w' := by
 have mE : kE ≤ 9223372036854775807 := by have := RE.out.most; unfold maxLen at this; omega
 have cE : nE ≤ kE := by have := RE.out.le; rw [HLE.out] at this; exact this
 have HB0 : Hid (Below (w.heap.size + 1) (w.alloc (.cells #[.slice oT nT kT, .slice oI nI kI, .slice oF nF kF, .int .i64 t, .int .i64 p, .int .i64 q, .slice oG nG kG, .slice oE nE kE, .int .i64 s, .slice oL nL kL, .slice oD nD kD] 30)) (w.alloc (.cells #[.slice oT nT kT, .slice oI nI kI, .slice oF nF kF, .int .i64 t, .int .i64 p, .int .i64 q, .slice oG nG kG, .slice oE nE kE, .int .i64 s, .slice oL nL kL, .slice oD nD kD] 30))) := Below.refl _ _
 have HBW : Hid (∀ w', Below (w.heap.size + 1) (w.alloc (.cells #[.slice oT nT kT, .slice oI nI kI, .slice oF nF kF, .int .i64 t, .int .i64 p, .int .i64 q, .slice oG nG kG, .slice oE nE kE, .int .i64 s, .slice oL nL kL, .slice oD nD kD] 30)) w' → Below w.heap.size w w') := fun w' b => ((Below.refl _ _).alloc (Nat.le_refl _) _ : Below w.heap.size w (w.alloc (.cells #[.slice oT nT kT, .slice oI nI kI, .slice oF nF kF, .int .i64 t, .int .i64 p, .int .i64 q, .slice oG nG kG, .slice oE nE kE, .int .i64 s, .slice oL nL kL, .slice oD nD kD] 30))).trans (b.mono (Nat.le_succ _))
 obtain ⟨c0, c1, c2, c3, c4, c5, c6, c7, c8, c9, c10⟩ := cells11 HB0.out
 go_enter Tryz.func42, Tryz.ntmps42
 go_wp2
 go_loopw [10] (fun iv wr => ∃ j : Nat, iv = .int .i64 (j : Int) ∧ j ≤ nE ∧ Hid (expErr ((nI : Int) + (nF : Int)) (LE.take j) (LE.drop j) = z) ∧ Hid (Below (w.heap.size + 1) (w.alloc (.cells #[.slice oT nT kT, .slice oI nI kI, .slice oF nF kF, .int .i64 t, .int .i64 p, .int .i64 q, .slice oG nG kG, .slice oE nE kE, .int .i64 s, .slice oL nL kL, .slice oD nD kD] 30)) wr)) (fun iv _ => nE - (intOf iv).toNat)
 case atStart => exact ⟨0, rfl, by omega, HR, HB0⟩
 case round =>
  obtain ⟨j, rfl, hj, HA, HBr⟩ := hrel
  clear c0 c1 c2 c3 c4 c5 c6 c7 c8 c9 c10
  by_cases hlt : j < nE
  ·skip
   have hxE : j < LE.length := by rw [HLE.out]; exact hlt
   obtain ⟨b, f, rfl, hbN, hcl⟩ := RE.out.at'.resolve_left (fun e => by rw [e] at hxE; exact absurd hxE (by simp))
   have HC : Hid (∀ r, r < 2 → wr.cell? ⟨b, f + j * 2 + r, none⟩ = (NamD.cells LE[j])[r]?) := fun r hr => by
    rw [(HBW.out _ HBr.out).cell (p := ⟨b, f + j * 2 + r, none⟩) hbN]
    exact hcl j hxE r hr
   have HXE : Hid (j < LE.length) := hxE
   generalize hd : LE[j] = d at HC
   have HDE : Hid (LE[j]'HXE.out = d) := hd
   have hki0 : (0 : Int) ≤ (j : Int) := by omega
   have hki1 : (j : Int) < (nE : Int) := by omega
   have hwz := HBr.out.size
   clear hcl hxE hd
   obtain ⟨ds, dn⟩ := d
   have hdp : decide (0 ≤ dn) = true := decide_eq_true (by have h1 := HP.out _ (List.getElem_mem HXE.out); rw [HDE.out] at h1; exact h1)
   have e0 : wr.cell? ⟨b, f + j * 2, none⟩ = some (.string ds) := HC.out 0 (by omega)
   have e1 : wr.cell? ⟨b, f + j * 2 + 1, none⟩ = some (.int .i64 dn) := HC.out 1 (by omega)
   have hbw : Below wr.heap.size wr (wr.alloc (.cells #[.string ds, .int .i64 dn] 95)) := (Below.refl _ _).alloc (Nat.le_refl _) _
   have hB2 := HBr.out.trans (hbw.mono (by simpa using hwz : w.heap.size + 1 ≤ wr.heap.size))
   have HB2 : Hid (Below _ _ _) := hB2
   have hEA := expErr_at ((nI : Int) + (nF : Int)) LE j HXE.out
   rw [HA.out, HDE.out] at hEA
   have HEA : Hid (z = if (nI : Int) + (nF : Int) ≤ dn then 8 else if (LE.take j).any (fun o => o.s.toList == ds.toList) then 12 else expErr ((nI : Int) + (nF : Int)) (LE.take (j + 1)) (LE.drop (j + 1))) := hEA
   have hbe : Below (wr.heap.size + 1) (wr.alloc (.cells #[.string ds, .int .i64 dn] 95)) ((wr.alloc (.cells #[.string ds, .int .i64 dn] 95)).alloc (.cells #[.slice oT nT kT, .slice oI nI kI, .slice oF nF kF, .int .i64 t, .int .i64 p, .int .i64 q, .slice oG nG kG, .slice (some ⟨b, f, none⟩) nE kE, .int .i64 s, .slice oL nL kL, .slice oD nD kD] 30)) := (Below.refl _ _).alloc (by simp) _
   have HBE : Hid (type_of% hbe) := hbe
   have HB2W : Hid (∀ v, Below (wr.heap.size + 1) (wr.alloc (.cells #[.string ds, .int .i64 dn] 95)) v → Below (w.heap.size + 1) (w.alloc (.cells #[.slice oT nT kT, .slice oI nI kI, .slice oF nF kF, .int .i64 t, .int .i64 p, .int .i64 q, .slice oG nG kG, .slice (some ⟨b, f, none⟩) nE kE, .int .i64 s, .slice oL nL kL, .slice oD nD kD] 30)) v) := fun v b => HB2.out.trans (b.mono (by simp at hwz ⊢; omega))
   clear hB2 hbw HC HA hEA hbe
   obtain ⟨c0, c1, c2, c3, c4, c5, c6, c7, c8, c9, c10⟩ := cells11 HB2.out
   obtain ⟨d0, d1, d2, d3, d4, d5, d6, d7, d8, d9, d10⟩ := cells11 (HB2W.out _ HBE.out)
   obtain ⟨q0, q1⟩ := cells2 (Below.refl (wr.heap.size + 1) (wr.alloc (.cells #[.string ds, .int .i64 dn] 95)))
   by_cases hdn : dn < (nI : Int) + (nF : Int)
   ·have hdd : decide (dn < (nI : Int) + (nF : Int)) = true := decide_eq_true hdn
    have HE2 : Hid (z = if (LE.take j).any (fun o => o.s.toList == ds.toList) then 12 else expErr ((nI : Int) + (nF : Int)) (LE.take (j + 1)) (LE.drop (j + 1))) := by
     have := HEA.out
     rw [if_neg (by omega)] at this
     exact this
    clear HEA
    obtain ⟨u, hu⟩ : ∃ u, u = wr := ⟨_, rfl⟩
    subst hu
    go_wp2
    go_loopw [25] (fun iv wr => ∃ i : Nat, iv = .int .i64 (i : Int) ∧ i ≤ j ∧ Hid ((LE.take i).any (fun o => o.s.toList == ds.toList) = false) ∧ Hid (Below (u.heap.size + 1) (u.alloc (.cells #[.string ds, .int .i64 dn] 95)) wr)) (fun iv _ => j - (intOf iv).toNat)
    case atStart => exact ⟨0, rfl, by omega, rfl, HBE⟩
    case round =>
     obtain ⟨i, rfl, hi, HY, HV⟩ := hrel
     clear c0 c1 c2 c3 c4 c5 c6 c7 c8 c9 c10 d0 d1 d2 d3 d4 d5 d6 d7 d8 d9 d10 q0 q1 e0 e1
     have hvz := HV.out.size
     by_cases hij : i < j
     ·have hxi : i < LE.length := by have := HXE.out; omega
      obtain ⟨b', f', ho, hbN', hcl⟩ := RE.out.at'.resolve_left (fun e => by rw [e] at hxi; exact absurd hxi (by simp))
      obtain ⟨rfl, rfl⟩ : b = b' ∧ f = f' := by simpa using ho
      have HC : Hid (∀ r, r < 2 → wr.cell? ⟨b, f + i * 2 + r, none⟩ = (NamD.cells LE[i])[r]?) := fun r hr => by
       rw [(HBW.out _ (HB2W.out _ HV.out)).cell (p := ⟨b, f + i * 2 + r, none⟩) hbN]
       exact hcl i hxi r hr
      have HXI : Hid (i < LE.length) := hxi
      generalize hd : LE[i] = o at HC
      have HDI : Hid (LE[i]'HXI.out = o) := hd
      clear hcl hxi hd ho
      obtain ⟨os, on⟩ := o
      have e0 : wr.cell? ⟨b, f + i * 2, none⟩ = some (.string os) := HC.out 0 (by omega)
      have e1 : wr.cell? ⟨b, f + i * 2 + 1, none⟩ = some (.int .i64 on) := HC.out 1 (by omega)
      have hbv : Below wr.heap.size wr (wr.alloc (.cells #[.string os, .int .i64 on] 95)) := (Below.refl _ _).alloc (Nat.le_refl _) _
      have hV2 := HV.out.trans (hbv.mono (by simpa using hvz : u.heap.size + 1 ≤ wr.heap.size))
      have HV2 : Hid (Below _ _ _) := hV2
      clear hV2 hbv HC
      obtain ⟨q0, q1⟩ := cells2 HV2.out
      have hki0' : (0 : Int) ≤ (i : Int) := by omega
      have hki1' : (i : Int) < (j : Int) := by omega
      rcases hse : (os.toList == ds.toList) with _ | _
      ·have HY2 : Hid ((LE.take (i + 1)).any (fun o => o.s.toList == ds.toList) = false) := any_snoc _ _ _ HXI.out HY.out (by rw [HDI.out]; exact hse)
       go_wp2
       go_roundw
       case rel => exact ⟨i + 1, by go_num, by omega, HY2, HV2⟩
       case measure => simp [intOf]; omega
      ·have HF : Hid (z = 12) := by
        have h2 := HE2.out
        rw [any_yes _ _ i j HXI.out hij (by rw [HDI.out]; exact hse), if_pos rfl] at h2
        exact h2
       go_wp2
       refine bodyPost_ret (results_tmp rfl _ _ _) rfl ?_
       exact ⟨by rw [HF.out]; rfl, HBW.out _ (HB2W.out _ HV2.out)⟩
     ·have HF : Hid (z = expErr ((nI : Int) + (nF : Int)) (LE.take (j + 1)) (LE.drop (j + 1))) := by
       have h := HY.out
       rw [show i = j by omega] at h
       have h2 := HE2.out
       rw [h, if_neg (by simp)] at h2
       exact h2
      go_wp2
      go_roundw
      case rel => exact ⟨j + 1, by go_num, by omega, HF.out.symm, HB2W.out _ HV.out⟩
      case measure => simp [intOf]; omega
   ·have hdd : decide (dn < (nI : Int) + (nF : Int)) = false := decide_eq_false hdn
    have HF : Hid (z = 8) := by
     have := HEA.out
     rw [if_pos (by omega)] at this
     exact this
    go_wp2
    refine bodyPost_ret (results_tmp rfl _ _ _) rfl ?_
    exact ⟨by rw [HF.out]; rfl, HBW.out _ (HB2W.out _ HBE.out)⟩
  ·have HF : Hid (z = 0) := by
    have h := HA.out
    rw [List.drop_eq_nil_of_le (by rw [HLE.out]; omega)] at h
    exact h.symm
   go_wp2
   go_ret
   exact ⟨by rw [HF.out]; rfl, HBW.out _ HBr.out⟩
end Go.Proofs.YtlfihndbnaaodaaGreatDoor
namespace Go.Proofs.YtlfihndbnaaodaaGreatDoor
open Go.RowKit
set_option linter.unusedVariables false
def sigAt (LT : List SigD) (LI : List NamD) (LF : List FunD) (k : Nat) : SigD := if k < LI.length then LT[(LI[k]!).n.toNat]! else LT[(LF[k - LI.length]!).t.toNat]!
def startErr (LT : List SigD) (LI : List NamD) (LF : List FunD) (s : Int) : Int :=
 if s = 0 then 0 else if (LI.length : Int) + (LF.length : Int) ≤ s - 1 then 8 else
 if 0 < ((sigAt LT LI LF (s - 1).toNat).i.n : Int) + ((sigAt LT LI LF (s - 1).toNat).r.n : Int) then 10 else 0
theorem RowsOf.cellAt {α : Type} [Inhabited α] {w : World} {k : Nat} {cs : α → List Value} {ok : World → α → Prop} {o : Option Addr} {cap : Nat} {L : List α} (h : RowsOf w k cs ok o cap L) (hL : L ≠ []) : ∃ b f, o = some ⟨b, f, none⟩ ∧ b < w.heap.size ∧ ∀ w', Below w.heap.size w w' → ∀ i, i < L.length → ∀ r, r < k → w'.cell? ⟨b, f + i * k + r, none⟩ = (cs (L[i]!))[r]? := by
 obtain ⟨b, f, h1, h2, h3⟩ := h.at'.resolve_left hL
 refine ⟨b, f, h1, h2, fun w' hb i hi r hr => ?_⟩
 rw [hb.cell (p := ⟨b, f + i * k + r, none⟩) h2, h3 i hi r hr, getElem!_pos L i hi]
theorem infoSig : (Tryz.prog.info? 83).map (·.size) = some (2 : Nat) := by kernel_rfl
theorem type_ofI (oT oI oF oG oE oL oD : Option Addr) (nT kT nI kI nF kF nG kG nE kE nL kL nD kD : Nat) (t p q s : Int) (w : World) (LT : List SigD) (RT : Hid (RowsOf w 2 SigD.cells SigD.ok oT kT LT)) (HLT : Hid (LT.length = nT)) (LI : List NamD) (RI : Hid (RowsOf w 2 NamD.cells NamD.ok oI kI LI)) (HLI : Hid (LI.length = nI)) (hI : nI ≤ 16) (k : Int) (hk0 : 0 ≤ k) (hkm : k ≤ 2147483647) (i : Int) (hie : i = k) (hi0 : 0 ≤ i) (hi1 : i < (nI : Int)) (hkI : decide (k < (nI : Int)) = true)
  (hr0 : 0 ≤ (LI[i.toNat]!).n) (hr1 : (LI[i.toNat]!).n < (nT : Int)) (S : SigD) (HS : Hid (LT[(LI[i.toNat]!).n.toNat]! = S)) :
  Calls Tryz.prog 74 #[.agg #[.slice oT nT kT, .slice oI nI kI, .slice oF nF kF, .int .i64 t, .int .i64 p, .int .i64 q, .slice oG nG kG, .slice oE nE kE, .int .i64 s, .slice oL nL kL, .slice oD nD kD], .int .i64 k] w fun r w' => r = .returned (.agg #[S.i.v, S.r.v]) ∧ Below w.heap.size w w' := by
 have mT : kT ≤ 9223372036854775807 := by have := RT.out.most; unfold maxLen at this; omega
 have cT : nT ≤ kT := by have := RT.out.le; rw [HLT.out] at this; exact this
 have mI : kI ≤ 9223372036854775807 := by have := RI.out.most; unfold maxLen at this; omega
 have cI : nI ≤ kI := by have := RI.out.le; rw [HLI.out] at this; exact this
 obtain ⟨⟨io, iN, ic, ix⟩, ⟨ro, rN, rc, rx⟩⟩ := S
 have hiL : i.toNat < LI.length := by rw [HLI.out]; omega
 obtain ⟨b, f, rfl, hbN, hcl⟩ := RI.out.cellAt (fun e => by rw [e] at hiL; exact absurd hiL (by simp))
 have htL : (LI[i.toNat]!).n.toNat < LT.length := by rw [HLT.out]; omega
 obtain ⟨b2, f2, rfl, hbN2, hcl2⟩ := RT.out.cellAt (fun e => by rw [e] at htL; exact absurd htL (by simp))
 have HB2 : Hid (Below w.heap.size w ((w.alloc (.cells #[.slice (some ⟨b2, f2, none⟩) nT kT, .slice (some ⟨b, f, none⟩) nI kI, .slice oF nF kF, .int .i64 t, .int .i64 p, .int .i64 q, .slice oG nG kG, .slice oE nE kE, .int .i64 s, .slice oL nL kL, .slice oD nD kD] 30)).alloc (.cells #[.slice none 0 0, .slice none 0 0] 83))) := ((Below.refl _ _).alloc (Nat.le_refl _) _).alloc (by simp) _
 have e1 : ((w.alloc (.cells #[.slice (some ⟨b2, f2, none⟩) nT kT, .slice (some ⟨b, f, none⟩) nI kI, .slice oF nF kF, .int .i64 t, .int .i64 p, .int .i64 q, .slice oG nG kG, .slice oE nE kE, .int .i64 s, .slice oL nL kL, .slice oD nD kD] 30)).alloc (.cells #[.slice none 0 0, .slice none 0 0] 83)).cell? ⟨b, f + i.toNat * 2 + 1, none⟩ = some (.int .i64 (LI[i.toNat]!).n) := hcl _ HB2.out _ hiL 1 (by omega)
 have e2 : ((w.alloc (.cells #[.slice (some ⟨b2, f2, none⟩) nT kT, .slice (some ⟨b, f, none⟩) nI kI, .slice oF nF kF, .int .i64 t, .int .i64 p, .int .i64 q, .slice oG nG kG, .slice oE nE kE, .int .i64 s, .slice oL nL kL, .slice oD nD kD] 30)).alloc (.cells #[.slice none 0 0, .slice none 0 0] 83)).cell? ⟨b2, f2 + (LI[i.toNat]!).n.toNat * 2, none⟩ = some (.slice io iN ic) := by
  have := hcl2 _ HB2.out _ htL 0 (by omega)
  rw [HS.out] at this
  exact this
 have e3 : ((w.alloc (.cells #[.slice (some ⟨b2, f2, none⟩) nT kT, .slice (some ⟨b, f, none⟩) nI kI, .slice oF nF kF, .int .i64 t, .int .i64 p, .int .i64 q, .slice oG nG kG, .slice oE nE kE, .int .i64 s, .slice oL nL kL, .slice oD nD kD] 30)).alloc (.cells #[.slice none 0 0, .slice none 0 0] 83)).cell? ⟨b2, f2 + (LI[i.toNat]!).n.toNat * 2 + 1, none⟩ = some (.slice ro rN rc) := by
  have := hcl2 _ HB2.out _ htL 1 (by omega)
  rw [HS.out] at this
  exact this
 generalize (LI[i.toNat]!).n = d at *
 clear hcl hcl2
 have hit : i.toNat = k.toNat := by rw [hie]
 rw [hit] at e1
 subst hie
 go_enter Tryz.func74, Tryz.ntmps74
 go_wp2
 go_region
 go_wp2
 have hrow : ((w.alloc (.cells #[.slice (some ⟨b2, f2, none⟩) nT kT, .slice (some ⟨b, f, none⟩) nI kI, .slice oF nF kF, .int .i64 t, .int .i64 p, .int .i64 q, .slice oG nG kG, .slice oE nE kE, .int .i64 s, .slice oL nL kL, .slice oD nD kD] 30)).alloc (.cells #[.slice io iN ic, .slice ro rN rc] 83)).drew.heap[w.heap.size + 1]? = some (.cells #[.slice io iN ic, .slice ro rN rc] 83 (0, 0)) := by
  have := new_block (w.alloc (.cells #[.slice (some ⟨b2, f2, none⟩) nT kT, .slice (some ⟨b, f, none⟩) nI kI, .slice oF nF kF, .int .i64 t, .int .i64 p, .int .i64 q, .slice oG nG kG, .slice oE nE kE, .int .i64 s, .slice oL nL kL, .slice oD nD kD] 30)) (.cells #[.slice io iN ic, .slice ro rN rc] 83)
  rw [show (w.alloc (.cells #[.slice (some ⟨b2, f2, none⟩) nT kT, .slice (some ⟨b, f, none⟩) nI kI, .slice oF nF kF, .int .i64 t, .int .i64 p, .int .i64 q, .slice oG nG kG, .slice oE nE kE, .int .i64 s, .slice oL nL kL, .slice oD nD kD] 30)).heap.size = w.heap.size + 1 by simp] at this
  exact this
 refine bodyPost_ret (results_cell_row rfl _ _ (w.heap.size + 1) 83 #[.slice io iN ic, .slice ro rN rc] (0, 0) _ rfl hrow Tryz.underlying83 rfl infoSig) rfl ?_
 exact ⟨rfl, (((Below.refl _ _).alloc (Nat.le_refl _) _).alloc (by simp) _).drew⟩
theorem type_ofF (oT oI oF oG oE oL oD : Option Addr) (nT kT nI kI nF kF nG kG nE kE nL kL nD kD : Nat) (t p q s : Int) (w : World) (LT : List SigD) (RT : Hid (RowsOf w 2 SigD.cells SigD.ok oT kT LT)) (HLT : Hid (LT.length = nT)) (LF : List FunD) (RF : Hid (RowsOf w 3 FunD.cells FunD.ok oF kF LF)) (HLF : Hid (LF.length = nF)) (hI : nI ≤ 16) (k : Int) (hk0 : 0 ≤ k) (hkm : k ≤ 2147483647) (i : Int) (hie : i = k - (nI : Int)) (hi0 : 0 ≤ i) (hi1 : i < (nF : Int)) (hkI : decide (k < (nI : Int)) = false) (hkI2 : (nI : Int) ≤ k)
  (hr0 : 0 ≤ (LF[i.toNat]!).t) (hr1 : (LF[i.toNat]!).t < (nT : Int)) (S : SigD) (HS : Hid (LT[(LF[i.toNat]!).t.toNat]! = S)) :
  Calls Tryz.prog 74 #[.agg #[.slice oT nT kT, .slice oI nI kI, .slice oF nF kF, .int .i64 t, .int .i64 p, .int .i64 q, .slice oG nG kG, .slice oE nE kE, .int .i64 s, .slice oL nL kL, .slice oD nD kD], .int .i64 k] w fun r w' => r = .returned (.agg #[S.i.v, S.r.v]) ∧ Below w.heap.size w w' := by
 have mT : kT ≤ 9223372036854775807 := by have := RT.out.most; unfold maxLen at this; omega
 have cT : nT ≤ kT := by have := RT.out.le; rw [HLT.out] at this; exact this
 have mF : kF ≤ 9223372036854775807 := by have := RF.out.most; unfold maxLen at this; omega
 have cF : nF ≤ kF := by have := RF.out.le; rw [HLF.out] at this; exact this
 obtain ⟨⟨io, iN, ic, ix⟩, ⟨ro, rN, rc, rx⟩⟩ := S
 have hiL : i.toNat < LF.length := by rw [HLF.out]; omega
 obtain ⟨b, f, rfl, hbN, hcl⟩ := RF.out.cellAt (fun e => by rw [e] at hiL; exact absurd hiL (by simp))
 have htL : (LF[i.toNat]!).t.toNat < LT.length := by rw [HLT.out]; omega
 obtain ⟨b2, f2, rfl, hbN2, hcl2⟩ := RT.out.cellAt (fun e => by rw [e] at htL; exact absurd htL (by simp))
 have HB2 : Hid (Below w.heap.size w ((w.alloc (.cells #[.slice (some ⟨b2, f2, none⟩) nT kT, .slice oI nI kI, .slice (some ⟨b, f, none⟩) nF kF, .int .i64 t, .int .i64 p, .int .i64 q, .slice oG nG kG, .slice oE nE kE, .int .i64 s, .slice oL nL kL, .slice oD nD kD] 30)).alloc (.cells #[.slice none 0 0, .slice none 0 0] 83))) := ((Below.refl _ _).alloc (Nat.le_refl _) _).alloc (by simp) _
 have e1 : ((w.alloc (.cells #[.slice (some ⟨b2, f2, none⟩) nT kT, .slice oI nI kI, .slice (some ⟨b, f, none⟩) nF kF, .int .i64 t, .int .i64 p, .int .i64 q, .slice oG nG kG, .slice oE nE kE, .int .i64 s, .slice oL nL kL, .slice oD nD kD] 30)).alloc (.cells #[.slice none 0 0, .slice none 0 0] 83)).cell? ⟨b, f + i.toNat * 3, none⟩ = some (.int .i64 (LF[i.toNat]!).t) := hcl _ HB2.out _ hiL 0 (by omega)
 have e2 : ((w.alloc (.cells #[.slice (some ⟨b2, f2, none⟩) nT kT, .slice oI nI kI, .slice (some ⟨b, f, none⟩) nF kF, .int .i64 t, .int .i64 p, .int .i64 q, .slice oG nG kG, .slice oE nE kE, .int .i64 s, .slice oL nL kL, .slice oD nD kD] 30)).alloc (.cells #[.slice none 0 0, .slice none 0 0] 83)).cell? ⟨b2, f2 + (LF[i.toNat]!).t.toNat * 2, none⟩ = some (.slice io iN ic) := by
  have := hcl2 _ HB2.out _ htL 0 (by omega)
  rw [HS.out] at this
  exact this
 have e3 : ((w.alloc (.cells #[.slice (some ⟨b2, f2, none⟩) nT kT, .slice oI nI kI, .slice (some ⟨b, f, none⟩) nF kF, .int .i64 t, .int .i64 p, .int .i64 q, .slice oG nG kG, .slice oE nE kE, .int .i64 s, .slice oL nL kL, .slice oD nD kD] 30)).alloc (.cells #[.slice none 0 0, .slice none 0 0] 83)).cell? ⟨b2, f2 + (LF[i.toNat]!).t.toNat * 2 + 1, none⟩ = some (.slice ro rN rc) := by
  have := hcl2 _ HB2.out _ htL 1 (by omega)
  rw [HS.out] at this
  exact this
 generalize (LF[i.toNat]!).t = d at *
 clear hcl hcl2
 have hit : i.toNat = k.toNat - nI := by omega
 rw [hit] at e1
 subst hie
 go_enter Tryz.func74, Tryz.ntmps74
 go_wp2
 go_region
 go_wp2
 have hrow : ((w.alloc (.cells #[.slice (some ⟨b2, f2, none⟩) nT kT, .slice oI nI kI, .slice (some ⟨b, f, none⟩) nF kF, .int .i64 t, .int .i64 p, .int .i64 q, .slice oG nG kG, .slice oE nE kE, .int .i64 s, .slice oL nL kL, .slice oD nD kD] 30)).alloc (.cells #[.slice io iN ic, .slice ro rN rc] 83)).drew.heap[w.heap.size + 1]? = some (.cells #[.slice io iN ic, .slice ro rN rc] 83 (0, 0)) := by
  have := new_block (w.alloc (.cells #[.slice (some ⟨b2, f2, none⟩) nT kT, .slice oI nI kI, .slice (some ⟨b, f, none⟩) nF kF, .int .i64 t, .int .i64 p, .int .i64 q, .slice oG nG kG, .slice oE nE kE, .int .i64 s, .slice oL nL kL, .slice oD nD kD] 30)) (.cells #[.slice io iN ic, .slice ro rN rc] 83)
  rw [show (w.alloc (.cells #[.slice (some ⟨b2, f2, none⟩) nT kT, .slice oI nI kI, .slice (some ⟨b, f, none⟩) nF kF, .int .i64 t, .int .i64 p, .int .i64 q, .slice oG nG kG, .slice oE nE kE, .int .i64 s, .slice oL nL kL, .slice oD nD kD] 30)).heap.size = w.heap.size + 1 by simp] at this
  exact this
 refine bodyPost_ret (results_cell_row rfl _ _ (w.heap.size + 1) 83 #[.slice io iN ic, .slice ro rN rc] (0, 0) _ rfl hrow Tryz.underlying83 rfl infoSig) rfl ?_
 exact ⟨rfl, (((Below.refl _ _).alloc (Nat.le_refl _) _).alloc (by simp) _).drew⟩
end Go.Proofs.YtlfihndbnaaodaaGreatDoor
