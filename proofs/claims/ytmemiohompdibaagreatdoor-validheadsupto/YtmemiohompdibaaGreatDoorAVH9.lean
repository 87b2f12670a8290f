/-
 What the document's SigOf says.
-/
import Derived.Test.YtmemiohompdibaaGreatDoorAVC
import Derived.Laws.ResultCell
set_option maxHeartbeats 4000000
set_option maxRecDepth 1000000
namespace Go.Proofs.YtmemiohompdibaaGreatDoor
open Go.RowKit
set_option linter.unusedVariables false
theorem results_row_tmp {P : Program} {fn : Func} {p u : Tmp} {ty : TypeId} (h : fn.results = #[.cell p ty, .tmp u]) (tmps : Array Value) (w : World) (g : Nat) (t : TypeId) (cs : Array Value) (fr : Nat × Nat) (d : TypeDesc)
  (hp : tmps.getD p undef = .pointer (some ⟨g, 0, none⟩)) (hg : w.heap[g]? = some (.cells cs t fr))
  (hu : P.underlying ty = some d) (hd : (match d with | .struct _ | .array _ _ => true | _ => false) = true) (hi : (P.info? ty).map (·.size) = some cs.size) (x : Value) (hx : tmps.getD u undef = x) :
  (results fn tmps).run P w = .ok (.tuple #[.agg cs, x]) w := by
 rw [results_cell_tmp h, hp, hx]
 simp [asAddr, run_loadVar_row w g t ty cs fr d hg hu hd hi]
theorem infoSgI : (Tryz.prog.info? 3).map (fun i => (i.zero, i.size, i.bytes)) = some (some (.int .i64 0), 1, 8) := by kernel_rfl
theorem sig_of (oT oI oF oG oE oL oD : Option Addr) (nT kT nI kI nF kF nG kG nE kE nL kL nD kD : Nat) (t p q s : Int) (w : World) (LT : List SigD) (RT : Hid (RowsOf w 2 SigD.cells SigD.ok oT kT LT)) (HLT : Hid (LT.length = nT)) (LI : List NamD) (RI : Hid (RowsOf w 2 NamD.cells NamD.ok oI kI LI)) (HLI : Hid (LI.length = nI)) (LF : List FunD) (RF : Hid (RowsOf w 3 FunD.cells FunD.ok oF kF LF)) (HLF : Hid (LF.length = nF)) (hI : nI ≤ 16) (hF : nF ≤ 16) (x : Int) (hx0 : 0 ≤ x) (hx1 : x ≤ 4294967295) (so ro : Option Addr) (sn sc rn rc : Nat) (isb : Bool)
  (HSY : Hid (x < (nI : Int) + (nF : Int) → isb = true ∧ (sigAt LT LI LF x.toNat).i.o = so ∧ (sigAt LT LI LF x.toNat).i.n = sn ∧ (sigAt LT LI LF x.toNat).i.cap = sc ∧ (sigAt LT LI LF x.toNat).r.o = ro ∧ (sigAt LT LI LF x.toNat).r.n = rn ∧ (sigAt LT LI LF x.toNat).r.cap = rc))
  (HSN : Hid (¬ x < (nI : Int) + (nF : Int) → isb = false ∧ so = none ∧ sn = 0 ∧ sc = 0 ∧ ro = none ∧ rn = 0 ∧ rc = 0))
  (HTI : Hid (∀ i, i < nI → 0 ≤ (LI[i]!).n ∧ (LI[i]!).n < (nT : Int))) (HTF : Hid (∀ i, i < nF → 0 ≤ (LF[i]!).t ∧ (LF[i]!).t < (nT : Int))) :
  Calls Tryz.prog 35 #[.agg #[.slice oT nT kT, .slice oI nI kI, .slice oF nF kF, .int .i64 t, .int .i64 p, .int .i64 q, .slice oG nG kG, .slice oE nE kE, .int .i64 s, .slice oL nL kL, .slice oD nD kD], .int .i64 x] w fun r w' => r = .returned (.tuple #[.agg #[.slice so sn sc, .slice ro rn rc], .bool isb]) ∧ Below w.heap.size w w' := by
 have mT : kT ≤ 9223372036854775807 := by have := RT.out.most; unfold maxLen at this; omega
 have cT : nT ≤ kT := by have := RT.out.le; rw [HLT.out] at this; exact this
 have mI : kI ≤ 9223372036854775807 := by have := RI.out.most; unfold maxLen at this; omega
 have cI : nI ≤ kI := by have := RI.out.le; rw [HLI.out] at this; exact this
 have mF : kF ≤ 9223372036854775807 := by have := RF.out.most; unfold maxLen at this; omega
 have cF : nF ≤ kF := by have := RF.out.le; rw [HLF.out] at this; exact this
 have HB0 : Hid (Below (w.heap.size + 1) (w.alloc (.cells #[.slice oT nT kT, .slice oI nI kI, .slice oF nF kF, .int .i64 t, .int .i64 p, .int .i64 q, .slice oG nG kG, .slice oE nE kE, .int .i64 s, .slice oL nL kL, .slice oD nD kD] 30)) (w.alloc (.cells #[.slice oT nT kT, .slice oI nI kI, .slice oF nF kF, .int .i64 t, .int .i64 p, .int .i64 q, .slice oG nG kG, .slice oE nE kE, .int .i64 s, .slice oL nL kL, .slice oD nD kD] 30))) := Below.refl _ _
 have HBW : Hid (∀ w', Below (w.heap.size + 1) (w.alloc (.cells #[.slice oT nT kT, .slice oI nI kI, .slice oF nF kF, .int .i64 t, .int .i64 p, .int .i64 q, .slice oG nG kG, .slice oE nE kE, .int .i64 s, .slice oL nL kL, .slice oD nD kD] 30)) w' → Below w.heap.size w w') := fun w' b => ((Below.refl _ _).alloc (Nat.le_refl _) _ : Below w.heap.size w (w.alloc (.cells #[.slice oT nT kT, .slice oI nI kI, .slice oF nF kF, .int .i64 t, .int .i64 p, .int .i64 q, .slice oG nG kG, .slice oE nE kE, .int .i64 s, .slice oL nL kL, .slice oD nD kD] 30))).trans (b.mono (Nat.le_succ _))
 obtain ⟨i0, hi, hz0, hz1, hz2⟩ := info_parts infoSgI
 have HB2 : Hid (Below (w.heap.size + 1) (w.alloc (.cells #[.slice oT nT kT, .slice oI nI kI, .slice oF nF kF, .int .i64 t, .int .i64 p, .int .i64 q, .slice oG nG kG, .slice oE nE kE, .int .i64 s, .slice oL nL kL, .slice oD nD kD] 30)) ((w.alloc (.cells #[.slice oT nT kT, .slice oI nI kI, .slice oF nF kF, .int .i64 t, .int .i64 p, .int .i64 q, .slice oG nG kG, .slice oE nE kE, .int .i64 s, .slice oL nL kL, .slice oD nD kD] 30)).alloc (.cells #[.slice none 0 0, .slice none 0 0] 57))) := (Below.refl _ _).alloc (by simp) _
 have HBV : Hid (∀ w', Below (w.heap.size + 2) ((w.alloc (.cells #[.slice oT nT kT, .slice oI nI kI, .slice oF nF kF, .int .i64 t, .int .i64 p, .int .i64 q, .slice oG nG kG, .slice oE nE kE, .int .i64 s, .slice oL nL kL, .slice oD nD kD] 30)).alloc (.cells #[.slice none 0 0, .slice none 0 0] 57)) w' → Below (w.heap.size + 1) (w.alloc (.cells #[.slice oT nT kT, .slice oI nI kI, .slice oF nF kF, .int .i64 t, .int .i64 p, .int .i64 q, .slice oG nG kG, .slice oE nE kE, .int .i64 s, .slice oL nL kL, .slice oD nD kD] 30)) w') := fun w' b => HB2.out.trans (b.mono (by omega))
 obtain ⟨c0, c1, c2, c3, c4, c5, c6, c7, c8, c9, c10⟩ := cells11 HB0.out
 obtain ⟨d0, d1, d2, d3, d4, d5, d6, d7, d8, d9, d10⟩ := cells11 HB2.out
 go_enter Tryz.func35, Tryz.ntmps35
 go_wp2
 go_loopw [6, 14] (fun v iv wr => ∃ j : Nat, ∃ pre : List Int, iv = .int .i64 (j : Int) ∧ j ≤ nI ∧ wr.ownsRow (w.heap.size + 2) 3 1 v j (pre.map (Value.int .i64)) ∧ Hid (pre = (LI.take j).map NamD.n) ∧ Hid (Below (w.heap.size + 2) ((w.alloc (.cells #[.slice oT nT kT, .slice oI nI kI, .slice oF nF kF, .int .i64 t, .int .i64 p, .int .i64 q, .slice oG nG kG, .slice oE nE kE, .int .i64 s, .slice oL nL kL, .slice oD nD kD] 30)).alloc (.cells #[.slice none 0 0, .slice none 0 0] 57)) wr)) (fun _ iv _ => nI - (intOf iv).toNat)
 case atStart => exact ⟨0, [], rfl, by omega, World.ownsRow_nil _ _ _ _, rfl, Below.refl _ _⟩
 case round =>
  obtain ⟨j, pre, rfl, hj, hown, HP, HBq⟩ := hrel
  have HBr : Hid (Below (w.heap.size + 1) (w.alloc (.cells #[.slice oT nT kT, .slice oI nI kI, .slice oF nF kF, .int .i64 t, .int .i64 p, .int .i64 q, .slice oG nG kG, .slice oE nE kE, .int .i64 s, .slice oL nL kL, .slice oD nD kD] 30)) wr) := HBV.out _ HBq.out
  have hqz := HBq.out.size
  clear c0 c1 c2 c3 c4 c5 c6 c7 c8 c9 c10 d0 d1 d2 d3 d4 d5 d6 d7 d8 d9 d10
  by_cases hlt : j < nI
  ·skip
   have hxI : j < LI.length := by rw [HLI.out]; exact hlt
   obtain ⟨b, f, rfl, hbN, hcl⟩ := RI.out.at'.resolve_left (fun e => by rw [e] at hxI; exact absurd hxI (by simp))
   have HC : Hid (∀ r, r < 2 → wr.cell? ⟨b, f + j * 2 + r, none⟩ = (NamD.cells LI[j])[r]?) := fun r hr => by
    rw [(HBW.out _ HBr.out).cell (p := ⟨b, f + j * 2 + r, none⟩) hbN]
    exact hcl j hxI r hr
   have HXI : Hid (j < LI.length) := hxI
   generalize hd : LI[j] = d at HC
   have HDE : Hid (LI[j]'HXI.out = d) := hd
   have hki0 : (0 : Int) ≤ (j : Int) := by omega
   have hki1 : (j : Int) < (nI : Int) := by omega
   have hwz := HBr.out.size
   clear hcl hxI hd
   obtain ⟨ds, dn⟩ := d
   have e0 : wr.cell? ⟨b, f + j * 2, none⟩ = some (.string ds) := HC.out 0 (by omega)
   have e1 : wr.cell? ⟨b, f + j * 2 + 1, none⟩ = some (.int .i64 dn) := HC.out 1 (by omega)
   have HS : Hid ((LI.take (j + 1)).map NamD.n = (LI.take j).map NamD.n ++ [dn]) := by
    unfold Hid
    rw [List.take_succ_eq_append_getElem HXI.out, List.map_append, HDE.out]
    rfl
   clear HC
   go_wp2_with (at_builtin; refine wpList_append_own _ rfl _ _ 76 rfl (w.heap.size + 2) 3 i0 (.int .i64 0) 1 8 Tryz.underlying76 hi hz0 hz1 hz2 rfl (by decide) _ _ _ rfl ((hown.alloc _).alloc _) ⟨_, 0, none⟩ 1 1 [.int .i64 dn] rfl rfl ?c1 ?c2 ?c3 ?c4 ?c5 ?_)
   case c1 =>
    have h := cell_one_new (wr.alloc (.cells #[.string ds, .int .i64 dn] 69)) (.int .i64 dn) 3
    rw [show (wr.alloc (.cells #[.string ds, .int .i64 dn] 69)).heap.size = wr.heap.size + 1 from Array.size_push _] at h
    exact h
   case c2 => intro u hu; simp at hu; subst hu; rfl
   case c3 => unfold maxLen; omega
   case c4 => omega
   case c5 => simp at hqz ⊢; omega
   ·intro v' w1 hown' hgrow _
    have hown2 : w1.ownsRow (w.heap.size + 2) 3 1 v' (j + 1) ((pre ++ [dn]).map (Value.int .i64)) := by rw [List.map_append]; exact hown'
    have HP2 : Hid (pre ++ [dn] = (LI.take (j + 1)).map NamD.n) := by unfold Hid; rw [HS.out, HP.out]
    have hq0 : w.heap.size + 2 ≤ wr.heap.size := by simpa using hqz
    have hb := ((HBq.out.alloc (by omega) (.cells #[.string ds, .int .i64 dn] 69)).alloc (by simp; omega) _).grown hgrow (by simp; omega) (fun j hj => (hown.lt j hj).1)
    have HBn : Hid (type_of% hb) := hb
    clear hown' hgrow hown hb
    go_wp2
    go_roundw
    case rel => exact ⟨j + 1, _, by go_num, by omega, hown2, HP2, HBn⟩
    case measure => simp [intOf]; omega
  ·obtain ⟨u, hu⟩ : ∃ u, u = wr := ⟨_, rfl⟩
   subst hu
   have HPI : Hid (pre = LI.map NamD.n) := by
    unfold Hid
    rw [HP.out, List.take_of_length_le (by rw [HLI.out]; omega)]
   have hjn : j = nI := by omega
   subst hjn
   obtain ⟨c0, c1, c2, c3, c4, c5, c6, c7, c8, c9, c10⟩ := cells11 HBr.out
   clear HP
   go_wp2
   go_loopw [6, 27] (fun v iv wr => ∃ j' : Nat, ∃ pre : List Int, iv = .int .i64 (j' : Int) ∧ j' ≤ nF ∧ wr.ownsRow (w.heap.size + 2) 3 1 v (j + j') (pre.map (Value.int .i64)) ∧ Hid (pre = LI.map NamD.n ++ (LF.take j').map FunD.t) ∧ Hid (Below (w.heap.size + 2) ((w.alloc (.cells #[.slice oT nT kT, .slice oI j kI, .slice oF nF kF, .int .i64 t, .int .i64 p, .int .i64 q, .slice oG nG kG, .slice oE nE kE, .int .i64 s, .slice oL nL kL, .slice oD nD kD] 30)).alloc (.cells #[.slice none 0 0, .slice none 0 0] 57)) wr)) (fun _ iv _ => nF - (intOf iv).toNat)
   case atStart => exact ⟨0, pre, rfl, by omega, hown, by unfold Hid; rw [HPI.out, List.take_zero, List.map_nil, List.append_nil], HBq⟩
   case round =>
    clear HBr c0 c1 c2 c3 c4 c5 c6 c7 c8 c9 c10 hown HBq hqz
    obtain ⟨k, pre', rfl, hj, hown, HP, HBq⟩ := hrel
    have HBr : Hid (Below (w.heap.size + 1) (w.alloc (.cells #[.slice oT nT kT, .slice oI j kI, .slice oF nF kF, .int .i64 t, .int .i64 p, .int .i64 q, .slice oG nG kG, .slice oE nE kE, .int .i64 s, .slice oL nL kL, .slice oD nD kD] 30)) wr) := HBV.out _ HBq.out
    have hqz := HBq.out.size
    clear hlt
    by_cases hlt : k < nF
    ·skip
     have hxF : k < LF.length := by rw [HLF.out]; exact hlt
     obtain ⟨b, f, rfl, hbN, hcl⟩ := RF.out.at'.resolve_left (fun e => by rw [e] at hxF; exact absurd hxF (by simp))
     have HC : Hid (∀ r, r < 3 → wr.cell? ⟨b, f + k * 3 + r, none⟩ = (FunD.cells LF[k])[r]?) := fun r hr => by
      rw [(HBW.out _ HBr.out).cell (p := ⟨b, f + k * 3 + r, none⟩) hbN]
      exact hcl k hxF r hr
     have HXF : Hid (k < LF.length) := hxF
     generalize hd : LF[k] = d at HC
     have HDE : Hid (LF[k]'HXF.out = d) := hd
     have hki0 : (0 : Int) ≤ (k : Int) := by omega
     have hki1 : (k : Int) < (nF : Int) := by omega
     have hwz := HBr.out.size
     clear hcl hxF hd
     obtain ⟨dt, ⟨lo, ln, lc, lx⟩, bo, bc, bb'⟩ := d
     have e0 : wr.cell? ⟨b, f + k * 3, none⟩ = some (.int .i64 dt) := HC.out 0 (by omega)
     have e1 : wr.cell? ⟨b, f + k * 3 + 1, none⟩ = some (.slice lo ln lc) := HC.out 1 (by omega)
     have e2 : wr.cell? ⟨b, f + k * 3 + 2, none⟩ = some (.slice bo bb'.length bc) := HC.out 2 (by omega)
     have HS : Hid ((LF.take (k + 1)).map FunD.t = (LF.take k).map FunD.t ++ [dt]) := by
      unfold Hid
      rw [List.take_succ_eq_append_getElem HXF.out, List.map_append, HDE.out]
      rfl
     clear HC
     go_wp2_with (at_builtin; refine wpList_append_own _ rfl _ _ 76 rfl (w.heap.size + 2) 3 i0 (.int .i64 0) 1 8 Tryz.underlying76 hi hz0 hz1 hz2 rfl (by decide) _ _ _ rfl ((hown.alloc _).alloc _) ⟨_, 0, none⟩ 1 1 [.int .i64 dt] rfl rfl ?c1 ?c2 ?c3 ?c4 ?c5 ?_)
     case c1 =>
      have h := cell_one_new (wr.alloc (.cells #[.int .i64 dt, .slice lo ln lc, .slice bo bb'.length bc] 50)) (.int .i64 dt) 3
      rw [show (wr.alloc (.cells #[.int .i64 dt, .slice lo ln lc, .slice bo bb'.length bc] 50)).heap.size = wr.heap.size + 1 from Array.size_push _] at h
      exact h
     case c2 => intro u hu; simp at hu; subst hu; rfl
     case c3 => unfold maxLen; omega
     case c4 => omega
     case c5 => simp at hqz ⊢; omega
     ·intro v' w1 hown' hgrow _
      have hown2 : w1.ownsRow (w.heap.size + 2) 3 1 v' (j + (k + 1)) ((pre' ++ [dt]).map (Value.int .i64)) := by rw [List.map_append]; exact hown'
      have HP2 : Hid (pre' ++ [dt] = LI.map NamD.n ++ (LF.take (k + 1)).map FunD.t) := by unfold Hid; rw [HS.out, HP.out, List.append_assoc]
      have hq0 : w.heap.size + 2 ≤ wr.heap.size := by simpa using hqz
      have hb := ((HBq.out.alloc (by omega) (.cells #[.int .i64 dt, .slice lo ln lc, .slice bo bb'.length bc] 50)).alloc (by simp; omega) _).grown hgrow (by simp; omega) (fun j hj => (hown.lt j hj).1)
      have HBn : Hid (type_of% hb) := hb
      clear hown' hgrow hown hb
      go_wp2
      go_roundw
      case rel => exact ⟨k + 1, _, by go_num, by omega, hown2, HP2, HBn⟩
      case measure => simp [intOf]; omega
    ·have hkn : k = nF := by omega
     subst hkn
     obtain ⟨c0, c1, c2, c3, c4, c5, c6, c7, c8, c9, c10⟩ := cells11 HBr.out
     have HPF : Hid (pre' = LI.map NamD.n ++ LF.map FunD.t) := by
      unfold Hid
      rw [HP.out, List.take_of_length_le (by rw [HLF.out]; omega)]
     have HRB : Hid (wr.heap[w.heap.size + 1]? = some (.cells #[.slice none 0 0, .slice none 0 0] 57 (0, 0))) := (HBq.out.block (w.heap.size + 1) (by omega)).trans (by
      have := new_block (w.alloc (.cells #[.slice oT nT kT, .slice oI j kI, .slice oF k kF, .int .i64 t, .int .i64 p, .int .i64 q, .slice oG nG kG, .slice oE nE kE, .int .i64 s, .slice oL nL kL, .slice oD nD kD] 30)) (.cells #[.slice none 0 0, .slice none 0 0] 57)
      rw [show (w.alloc (.cells #[.slice oT nT kT, .slice oI j kI, .slice oF k kF, .int .i64 t, .int .i64 p, .int .i64 q, .slice oG nG kG, .slice oE nE kE, .int .i64 s, .slice oL nL kL, .slice oD nD kD] 30)).heap.size = w.heap.size + 1 by simp] at this
      exact this)
     have k0 : wr.cell? ⟨w.heap.size + 1, 0, none⟩ = some (.slice none 0 0) := by have := HRB.out; simp [World.cell?, this]
     have k1 : wr.cell? ⟨w.heap.size + 1, 1, none⟩ = some (.slice none 0 0) := by have := HRB.out; simp [World.cell?, this]
     have k2 : wr.frozen? ⟨w.heap.size + 1, 0, none⟩ = false := by have := HRB.out; simp [World.frozen?, this]
     have k3 : wr.frozen? ⟨w.heap.size + 1, 1, none⟩ = false := by have := HRB.out; simp [World.frozen?, this]
     by_cases hxN : x < (j : Int) + (k : Int)
     ·have hxd : decide ((j : Int) + (k : Int) ≤ x) = false := decide_eq_false (by omega)
      rcases hown.2 with h0 | ⟨g, cap, cur, rfl, hb', hg, h3⟩
      ·have := h0.2; omega
      ·have hcell : wr.cell? ⟨g, x.toNat, none⟩ = some (.int .i64 (pre'.getD x.toNat 0)) := by
        have hl : pre'.length = j + k := by rw [HPF.out, List.length_append, List.length_map, List.length_map, HLI.out, HLF.out]
        have h4 := h3.2.2.2
        have h5 : (List.take ((j + k) * 1) cur.toList)[x.toNat]? = (pre'.map (Value.int .i64))[x.toNat]? := by rw [h4]
        rw [List.getElem?_take, if_pos (by omega), List.getElem?_map, List.getElem?_eq_getElem (by omega : x.toNat < pre'.length)] at h5
        simp only [World.cell?, hg]
        rw [List.getD_eq_getElem?_getD, List.getElem?_eq_getElem (by omega : x.toNat < pre'.length)]
        simpa using h5
       have HSg : Hid (sigAt LT LI LF x.toNat = LT[(pre'.getD x.toNat 0).toNat]! ∧ 0 ≤ pre'.getD x.toNat 0 ∧ pre'.getD x.toNat 0 < (nT : Int)) := by
        unfold Hid sigAt
        rw [HPF.out, List.getD_eq_getElem?_getD]
        by_cases hxj : x.toNat < LI.length
        ·have hb := HTI.out x.toNat (by rw [← HLI.out]; exact hxj)
         rw [getElem!_pos LI _ hxj] at hb
         rw [if_pos hxj, List.getElem?_append_left (by simpa using hxj), List.getElem?_map, List.getElem?_eq_getElem hxj, getElem!_pos LI _ hxj]
         exact ⟨rfl, hb⟩
        ·have hxk : x.toNat - LI.length < LF.length := by have h1 := HLI.out; have h2 := HLF.out; omega
         have hb := HTF.out (x.toNat - LI.length) (by rw [← HLF.out]; exact hxk)
         rw [getElem!_pos LF _ hxk] at hb
         rw [if_neg hxj, List.getElem?_append_right (by simpa using hxj), List.length_map, List.getElem?_map, List.getElem?_eq_getElem hxk, getElem!_pos LF _ hxk]
         exact ⟨rfl, hb⟩
       obtain ⟨hy1, hy2, hy3⟩ := HSg.out
       generalize pre'.getD x.toNat 0 = y at *
       have hq := HSY.out hxN
       rw [hy1] at hq
       have htL : y.toNat < LT.length := by rw [HLT.out]; omega
       obtain ⟨b2, f2, rfl, hbN2, hcl2⟩ := RT.out.cellAt (fun e => by rw [e] at htL; exact absurd htL (by simp))
       have E2 := hcl2 _ (HBW.out _ HBr.out) _ htL
       generalize LT[y.toNat]! = S at E2 hq
       obtain ⟨⟨io, iN, ic, ix⟩, ⟨qo, qN, qc, qx⟩⟩ := S
       dsimp only at hq
       obtain ⟨rfl, rfl, rfl, rfl, rfl, rfl, rfl⟩ := hq
       have e2 : wr.cell? ⟨b2, f2 + y.toNat * 2, none⟩ = some (.slice io iN ic) := E2 0 (by omega)
       have e3 : wr.cell? ⟨b2, f2 + y.toNat * 2 + 1, none⟩ = some (.slice qo qN qc) := E2 1 (by omega)
       clear hcl2 E2 hy1 HSg
       have hsw : w.heap.size + 2 ≤ wr.heap.size := by have := HBq.out.size; simpa using this
       have hc1 : Chg (w.heap.size + 1) wr (wr.setCell ⟨w.heap.size + 1, 0, none⟩ (.slice io iN ic)) := Chg.set _ _ _ _
       have hc2 : Chg (w.heap.size + 1) (wr.setCell ⟨w.heap.size + 1, 0, none⟩ (.slice io iN ic)) ((wr.setCell ⟨w.heap.size + 1, 0, none⟩ (.slice io iN ic)).setCell ⟨w.heap.size + 1, 1, none⟩ (.slice qo qN qc)) := Chg.set _ _ _ _
       have HBF : Hid (Below w.heap.size w ((wr.setCell ⟨w.heap.size + 1, 0, none⟩ (.slice io iN ic)).setCell ⟨w.heap.size + 1, 1, none⟩ (.slice qo qN qc))) := (HBW.out _ HBr.out).trans ((hc1.trans hc2).below (by omega) (by omega))
       have HRF : Hid (((wr.setCell ⟨w.heap.size + 1, 0, none⟩ (.slice io iN ic)).setCell ⟨w.heap.size + 1, 1, none⟩ (.slice qo qN qc)).drew.heap[w.heap.size + 1]? = some (.cells #[.slice io iN ic, .slice qo qN qc] 57 (0, 0))) := by
        unfold Hid
        have := HRB.out
        simp [World.setCell, World.drew, Array.getElem?_modify, this]
       clear hc1 hc2
       go_wp2
       go_region
       go_wp2
       refine bodyPost_ret (results_row_tmp rfl _ _ (w.heap.size + 1) 57 #[.slice io iN ic, .slice qo qN qc] (0, 0) _ rfl HRF.out Tryz.underlying57 rfl infoSig _ rfl) rfl ?_
       exact ⟨rfl, HBF.out.drew⟩
     ·have hxd : decide ((j : Int) + (k : Int) ≤ x) = true := decide_eq_true (by omega)
      obtain ⟨rfl, rfl, rfl, rfl, rfl, rfl, rfl⟩ := HSN.out (by omega)
      rcases hown.2 with ⟨rfl, h0⟩ | ⟨g, cap, cur, rfl, hb', hg, h3⟩
      ·have hsw : w.heap.size + 2 ≤ wr.heap.size := by have := HBq.out.size; simpa using this
       have hc1 : Chg (w.heap.size + 1) wr (wr.setCell ⟨w.heap.size + 1, 0, none⟩ (.slice none 0 0)) := Chg.set _ _ _ _
       have hc2 : Chg (w.heap.size + 1) (wr.setCell ⟨w.heap.size + 1, 0, none⟩ (.slice none 0 0)) ((wr.setCell ⟨w.heap.size + 1, 0, none⟩ (.slice none 0 0)).setCell ⟨w.heap.size + 1, 1, none⟩ (.slice none 0 0)) := Chg.set _ _ _ _
       have HBF : Hid (Below w.heap.size w ((wr.setCell ⟨w.heap.size + 1, 0, none⟩ (.slice none 0 0)).setCell ⟨w.heap.size + 1, 1, none⟩ (.slice none 0 0))) := (HBW.out _ HBr.out).trans ((hc1.trans hc2).below (by omega) (by omega))
       have HRF : Hid (((wr.setCell ⟨w.heap.size + 1, 0, none⟩ (.slice none 0 0)).setCell ⟨w.heap.size + 1, 1, none⟩ (.slice none 0 0)).heap[w.heap.size + 1]? = some (.cells #[.slice none 0 0, .slice none 0 0] 57 (0, 0))) := by
        unfold Hid
        have := HRB.out
        simp [World.setCell, Array.getElem?_modify, this]
       clear hc1 hc2
       go_wp2
       refine bodyPost_ret (results_row_tmp rfl _ _ (w.heap.size + 1) 57 #[.slice none 0 0, .slice none 0 0] (0, 0) _ rfl HRF.out Tryz.underlying57 rfl infoSig _ rfl) rfl ?_
       exact ⟨rfl, HBF.out⟩
      ·have hsw : w.heap.size + 2 ≤ wr.heap.size := by have := HBq.out.size; simpa using this
       have hc1 : Chg (w.heap.size + 1) wr (wr.setCell ⟨w.heap.size + 1, 0, none⟩ (.slice none 0 0)) := Chg.set _ _ _ _
       have hc2 : Chg (w.heap.size + 1) (wr.setCell ⟨w.heap.size + 1, 0, none⟩ (.slice none 0 0)) ((wr.setCell ⟨w.heap.size + 1, 0, none⟩ (.slice none 0 0)).setCell ⟨w.heap.size + 1, 1, none⟩ (.slice none 0 0)) := Chg.set _ _ _ _
       have HBF : Hid (Below w.heap.size w ((wr.setCell ⟨w.heap.size + 1, 0, none⟩ (.slice none 0 0)).setCell ⟨w.heap.size + 1, 1, none⟩ (.slice none 0 0))) := (HBW.out _ HBr.out).trans ((hc1.trans hc2).below (by omega) (by omega))
       have HRF : Hid (((wr.setCell ⟨w.heap.size + 1, 0, none⟩ (.slice none 0 0)).setCell ⟨w.heap.size + 1, 1, none⟩ (.slice none 0 0)).heap[w.heap.size + 1]? = some (.cells #[.slice none 0 0, .slice none 0 0] 57 (0, 0))) := by
        unfold Hid
        have := HRB.out
        simp [World.setCell, Array.getElem?_modify, this]
       clear hc1 hc2
       go_wp2
       refine bodyPost_ret (results_row_tmp rfl _ _ (w.heap.size + 1) 57 #[.slice none 0 0, .slice none 0 0] (0, 0) _ rfl HRF.out Tryz.underlying57 rfl infoSig _ rfl) rfl ?_
       exact ⟨rfl, HBF.out⟩
end Go.Proofs.YtmemiohompdibaaGreatDoor
