/-
 The document's own ValidHead.
-/
import Derived.Test.YtmemiohompdibaaGreatDoorAVH9
set_option maxHeartbeats 4000000
set_option maxRecDepth 1000000
namespace Go.Proofs.YtmemiohompdibaaGreatDoor
open Go.RowKit
set_option linter.unusedVariables false
theorem cell_at {w : World} {P : Nat} {cs : Array Value} {t : TypeId} {fr : Nat × Nat} (h : w.heap[P]? = some (.cells cs t fr)) (i : Nat) {v : Value} (hv : cs[i]? = some v) : w.cell? ⟨P, i, none⟩ = some v := by
 simp only [World.cell?, h]
 exact hv
theorem frst_drop {α : Type} (f : α → Int) (L : List α) (j : Nat) (h : j < L.length) : frst f (L.drop j) = fstE (f L[j]) (frst f (L.drop (j + 1))) := by
 rw [List.drop_eq_getElem_cons h]
 rfl
theorem frst_end {α : Type} (f : α → Int) (L : List α) (j : Nat) (h : L.length ≤ j) : frst f (L.drop j) = 0 := by
 rw [List.drop_eq_nil_of_le h]
 rfl
theorem expD_at (N : Int) (L : List NamD) (j : Nat) (h : j < L.length) : expD N (L.take j) (L.drop j) = fstE (fstE (okE (!decide (N ≤ L[j].n)) 8) (frst (fun y => okE (!(L[j].s.toList == y.s.toList)) 12) (L.take j))) (expD N (L.take (j + 1)) (L.drop (j + 1))) := by
 rw [List.drop_eq_getElem_cons h, List.take_succ_eq_append_getElem h]
 rfl
theorem take_drop_at {α : Type} (L : List α) (i j : Nat) (h : i < j) (hj : j ≤ L.length) : (L.take j).drop i = L[i]'(by omega) :: (L.take j).drop (i + 1) := by
 rw [List.drop_eq_getElem_cons (by rw [List.length_take]; omega), List.getElem_take]
theorem frst_cons {α : Type} (f : α → Int) (a : α) (L : List α) : frst f (a :: L) = fstE (f a) (frst f L) := rfl
theorem vhead_core (oT oI oF oG oE oL oD : Option Addr) (nT kT nI kI nF kF nG kG nE kE nL kL nD kD : Nat) (t p q s : Int) (w : World) (LI : List NamD) (RI : Hid (RowsOf w 2 NamD.cells NamD.ok oI kI LI)) (HLI : Hid (LI.length = nI)) (LF : List FunD) (RF : Hid (RowsOf w 3 FunD.cells FunD.ok oF kF LF)) (HLF : Hid (LF.length = nF)) (LE : List NamD) (RE : Hid (RowsOf w 2 NamD.cells NamD.ok oE kE LE)) (HLE : Hid (LE.length = nE)) (LL : List EleD) (RL : Hid (RowsOf w 2 EleD.cells EleD.ok oL kL LL)) (HLL : Hid (LL.length = nL)) (z0 z2 zS z zz : Int)
  (HBC : Hid (∀ w', Below w.heap.size w w' → Calls Tryz.prog 32 #[.agg #[.slice oT nT kT, .slice oI nI kI, .slice oF nF kF, .int .i64 t, .int .i64 p, .int .i64 q, .slice oG nG kG, .slice oE nE kE, .int .i64 s, .slice oL nL kL, .slice oD nD kD]] w' fun r w'' => r = .returned (.int .i64 z0) ∧ Below w'.heap.size w' w''))
  (HG : Hid (z0 = 0 → nT ≤ 16 ∧ nI ≤ 16 ∧ nF ≤ 16 ∧ nE ≤ 8 ∧ nL ≤ 4 ∧ nD ≤ 4 ∧ 0 ≤ s ∧ s ≤ 4294967295 ∧ ∀ d ∈ LL, d.f.n ≤ 16))
  (HZ2 : Hid (fstE (frst (fun d : NamD => okE (!decide ((nT : Int) ≤ d.n)) 8) LI) (frst (fun d : FunD => okE (!decide ((nT : Int) ≤ d.t)) 8) LF) = z2))
  (so ro : Option Addr) (sn sc rn rc : Nat) (isb : Bool) (Hsn : Hid (z0 = 0 → z2 = 0 → 0 < s → sn ≤ 16 ∧ rn ≤ 16))
  (HSG : Hid (z0 = 0 → z2 = 0 → 0 < s → ∀ w', Below w.heap.size w w' → Calls Tryz.prog 35 #[.agg #[.slice oT nT kT, .slice oI nI kI, .slice oF nF kF, .int .i64 t, .int .i64 p, .int .i64 q, .slice oG nG kG, .slice oE nE kE, .int .i64 s, .slice oL nL kL, .slice oD nD kD], .int .i64 (s - 1)] w' fun r w'' => r = .returned (.tuple #[.agg #[.slice so sn sc, .slice ro rn rc], .bool isb]) ∧ Below w'.heap.size w' w''))
  (HZS : Hid ((0 < s → zS = fstE (okE isb 8) (okE (!decide (0 < (sn : Int) + (rn : Int))) 10)) ∧ (s = 0 → zS = 0)))
  (HZ : Hid (fstE (fstE (fstE (expD ((nI : Int) + (nF : Int)) [] LE) zS) (frst (eleD t ((nI : Int) + (nF : Int))) LL)) (okE (!(decide (0 < (nD : Int)) && q == 0)) 8) = z))
  (HZZ : Hid (zz = if z0 = 0 then if z2 = 0 then z else z2 else z0)) :
  Calls Tryz.prog 10 #[.agg #[.slice oT nT kT, .slice oI nI kI, .slice oF nF kF, .int .i64 t, .int .i64 p, .int .i64 q, .slice oG nG kG, .slice oE nE kE, .int .i64 s, .slice oL nL kL, .slice oD nD kD]] w fun r w' => r = .returned (.int .i64 zz) ∧ Below w.heap.size w w' := by
 have mI : kI ≤ 9223372036854775807 := by have := RI.out.most; unfold maxLen at this; omega
 have cI : nI ≤ kI := by have := RI.out.le; rw [HLI.out] at this; exact this
 have mF : kF ≤ 9223372036854775807 := by have := RF.out.most; unfold maxLen at this; omega
 have cF : nF ≤ kF := by have := RF.out.le; rw [HLF.out] at this; exact this
 have mE : kE ≤ 9223372036854775807 := by have := RE.out.most; unfold maxLen at this; omega
 have cE : nE ≤ kE := by have := RE.out.le; rw [HLE.out] at this; exact this
 have mL : kL ≤ 9223372036854775807 := by have := RL.out.most; unfold maxLen at this; omega
 have cL : nL ≤ kL := by have := RL.out.le; rw [HLL.out] at this; exact this
 have HB0 : Hid (Below w.heap.size w (w.alloc (.cells #[.slice oT nT kT, .slice oI nI kI, .slice oF nF kF, .int .i64 t, .int .i64 p, .int .i64 q, .slice oG nG kG, .slice oE nE kE, .int .i64 s, .slice oL nL kL, .slice oD nD kD] 30))) := (Below.refl _ _).alloc (Nat.le_refl _) _
 have HX0 : Hid ((w.alloc (.cells #[.slice oT nT kT, .slice oI nI kI, .slice oF nF kF, .int .i64 t, .int .i64 p, .int .i64 q, .slice oG nG kG, .slice oE nE kE, .int .i64 s, .slice oL nL kL, .slice oD nD kD] 30)).heap[w.heap.size]? = some (.cells #[.slice oT nT kT, .slice oI nI kI, .slice oF nF kF, .int .i64 t, .int .i64 p, .int .i64 q, .slice oG nG kG, .slice oE nE kE, .int .i64 s, .slice oL nL kL, .slice oD nD kD] 30 (0, 0))) := new_block _ _
 obtain ⟨c0, c1, c2, c3, c4, c5, c6, c7, c8, c9, c10⟩ := X11.cell (w := (w.alloc (.cells #[.slice oT nT kT, .slice oI nI kI, .slice oF nF kF, .int .i64 t, .int .i64 p, .int .i64 q, .slice oG nG kG, .slice oE nE kE, .int .i64 s, .slice oL nL kL, .slice oD nD kD] 30))) HX0.out
 go_enter Tryz.func10, Tryz.ntmps10
 go_wp2_with fail
 refine (HBC.out _ HB0.out).mono ?_
 rintro r v1 ⟨rfl, b1⟩
 clear c0 c1 c2 c3 c4 c5 c6 c7 c8 c9 c10
 have hb := HB0.out.trans (b1.mono HB0.out.size)
 have HB1 : Hid (Below w.heap.size w v1) := hb
 have HX1 : Hid (v1.heap[w.heap.size]? = some (.cells #[.slice oT nT kT, .slice oI nI kI, .slice oF nF kF, .int .i64 t, .int .i64 p, .int .i64 q, .slice oG nG kG, .slice oE nE kE, .int .i64 s, .slice oL nL kL, .slice oD nD kD] 30 (0, 0))) := (b1.block w.heap.size (by simp)).trans HX0.out
 have hs1 : w.heap.size + 1 ≤ v1.heap.size := by have := b1.size; simpa using this
 clear b1 hb HB0 HX0 HBC
 by_cases h0 : z0 = 0
 ·subst h0
  obtain ⟨gT, gI, gF, gE, gL, gD, gs0, gs1, gl⟩ := HG.out rfl
  have HGL : Hid (∀ d ∈ LL, d.f.n ≤ 16) := gl
  clear gl
  obtain ⟨V, hV⟩ : ∃ V, V = v1.alloc (.cells #[.slice none 0 0] 67) := ⟨_, rfl⟩
  have HV : Hid (V = v1.alloc (.cells #[.slice none 0 0] 67)) := hV
  have HF : Hid (FS V w.heap.size v1.heap.size 0 0) := by unfold Hid; rw [hV]; exact FS.new v1 _
  have HB : Hid (Below w.heap.size w V) := by unfold Hid; rw [hV]; exact HB1.out.alloc HB1.out.size _
  have HX : Hid (V.heap[w.heap.size]? = some (.cells #[.slice oT nT kT, .slice oI nI kI, .slice oF nF kF, .int .i64 t, .int .i64 p, .int .i64 q, .slice oG nG kG, .slice oE nE kE, .int .i64 s, .slice oL nL kL, .slice oD nD kD] 30 (0, 0))) := by
   unfold Hid
   rw [hV, Below.heap_alloc _ _ _ (by omega)]
   exact HX1.out
  have HK : Hid (Kp notF V V) := Kp.refl _ _
  obtain ⟨c0, c1, c2, c3, c4, c5, c6, c7, c8, c9, c10⟩ := X11.cell (w := V) HX.out
  rw [hV] at c0 c1 c2 c3 c4 c5 c6 c7 c8 c9 c10
  clear hV HX1 HB1
  go_wp2
  obtain ⟨z1, hz1⟩ : ∃ z1, z1 = frst (fun d : NamD => okE (!decide ((nT : Int) ≤ d.n)) 8) LI := ⟨_, rfl⟩
  have HZ1e : Hid (type_of% hz1) := hz1
  clear hz1
  go_loopw [28] (fun iv wr => ∃ (j n : Nat) (acc : Int), iv = .int .i64 (j : Int) ∧ j ≤ nI ∧ n ≤ 0 + j * 1 ∧ Hid (FS wr w.heap.size v1.heap.size n acc) ∧ Hid (fstE acc (frst (fun d : NamD => okE (!decide ((nT : Int) ≤ d.n)) 8) (LI.drop j)) = z1) ∧ Hid (Below w.heap.size w wr) ∧ Hid (Kp notF V wr)) (fun iv _ => nI - (intOf iv).toNat)
  case atStart =>
   rw [← HV.out]
   exact ⟨0, 0, 0, rfl, by omega, by omega, HF, by unfold Hid; rw [fstE_zero, List.drop_zero]; exact HZ1e.out.symm, HB, HK⟩
  case round =>
   clear HF HB HK c0 c1 c2 c3 c4 c5 c6 c7 c8 c9 c10
   obtain ⟨j, n, acc, rfl, hj, hn, HF, HZj, HB, HK⟩ := hrel
   by_cases hlt : j < nI
   ·skip
    have hxx : j < LI.length := by rw [HLI.out]; exact hlt
    have HXX : Hid (j < LI.length) := hxx
    obtain ⟨b, f, rfl, hbN, hcl⟩ := RI.out.at'.resolve_left (fun e => by rw [e] at hxx; exact absurd hxx (by simp))
    have HC : Hid (∀ r, r < 2 → wr.cell? ⟨b, f + j * 2 + r, none⟩ = (NamD.cells LI[j])[r]?) := fun r hr => by
     rw [HB.out.cell (p := ⟨b, f + j * 2 + r, none⟩) hbN]
     exact hcl j hxx r hr
    have HAT : Hid (∀ wv, Below w.heap.size w wv → ∀ i (h : i < LI.length) r, r < 2 → wv.cell? ⟨b, f + i * 2 + r, none⟩ = (NamD.cells LI[i])[r]?) := fun wv hb i h r hr => by
     rw [hb.cell (p := ⟨b, f + i * 2 + r, none⟩) hbN]
     exact hcl i h r hr
    have HMEM : Hid (LI[j] ∈ LI ∧ NamD.ok w LI[j]) := ⟨List.getElem_mem hxx, RI.out.all _ (List.getElem_mem hxx)⟩
    have hki0 : (0 : Int) ≤ (j : Int) := by omega
    have hki1 : (j : Int) < (nI : Int) := by omega
    have hwz := HB.out.size
    have HZ1 : Hid (fstE (fstE acc ((fun d : NamD => okE (!decide ((nT : Int) ≤ d.n)) 8) LI[j])) (frst (fun d : NamD => okE (!decide ((nT : Int) ≤ d.n)) 8) (LI.drop (j + 1))) = z1) := by
     have := HZj.out
     rw [frst_drop _ _ _ hxx, ← fstE_assoc] at this
     exact this
    generalize LI[j] = d at HC HZ1
    clear hcl hxx HMEM HAT HZj
    obtain ⟨ds, dn⟩ := d
    have e0 : wr.cell? ⟨b, f + j * 2, none⟩ = some (.string ds) := HC.out 0 (by omega)
    have e1 : wr.cell? ⟨b, f + j * 2 + 1, none⟩ = some (.int .i64 dn) := HC.out 1 (by omega)
    have hbw : Below wr.heap.size wr (wr.alloc (.cells #[.string ds, .int .i64 dn] 69)) := (Below.refl _ _).alloc (Nat.le_refl _) _
    have HBX : Hid (Below w.heap.size w (wr.alloc (.cells #[.string ds, .int .i64 dn] 69))) := HB.out.trans (hbw.mono hwz)
    have HFX : Hid (FS (wr.alloc (.cells #[.string ds, .int .i64 dn] 69)) w.heap.size v1.heap.size n acc) := HF.out.below hbw
    have HKX : Hid (Kp notF V (wr.alloc (.cells #[.string ds, .int .i64 dn] 69))) := HK.out.trans (Kp.below _ hbw)
    have HYX : Hid ((wr.alloc (.cells #[.string ds, .int .i64 dn] 69)).heap[wr.heap.size]? = some (.cells #[.string ds, .int .i64 dn] 69 (0, 0))) := new_block _ _
    obtain ⟨c0, c1, c2, c3, c4, c5, c6, c7, c8, c9, c10⟩ := X11.cell (w := (wr.alloc (.cells #[.string ds, .int .i64 dn] 69))) ((HKX.out.blk w.heap.size _ _ _ HX.out (by decide)).trans HX.out)
    have z0 : (wr.alloc (.cells #[.string ds, .int .i64 dn] 69)).cell? ⟨wr.heap.size, 0, none⟩ = some (.string ds) := cell_at HYX.out 0 rfl
    have z1 : (wr.alloc (.cells #[.string ds, .int .i64 dn] 69)).cell? ⟨wr.heap.size, 1, none⟩ = some (.int .i64 dn) := cell_at HYX.out 1 rfl
    clear hbw HC HB HK HF
    go_wp2_with fail
    refine (fadd w.heap.size v1.heap.size n acc 8 (decide ((nT : Int) ≤ dn)) _ HFX.out (fun _ => by decide) (by omega) (by omega)).mono ?_
    rintro r y1 ⟨rfl, m1, hm1, f1, f2, f3⟩
    have HF1 : Hid (FS y1 w.heap.size v1.heap.size m1 (fstE acc (okE (!decide ((nT : Int) ≤ dn)) 8))) := f1
    have HB1 : Hid (Below w.heap.size w y1) := HBX.out.trans f2
    have HK1 : Hid (Kp notF V y1) := HKX.out.trans f3
    clear f1 f2 f3 HBX HFX HKX HYX c0 c1 c2 c3 c4 c5 c6 c7 c8 c9 c10 z0 z1
    go_wp2
    go_roundw
    case rel => exact ⟨j + 1, m1, _, by go_num, by omega, by omega, HF1, HZ1, HB1, HK1⟩
    case measure => simp [intOf]; omega
   ·skip
    have HFk : Hid (FS wr w.heap.size v1.heap.size n z1) := by
     have h := HZj.out
     rw [frst_end _ _ _ (by rw [HLI.out]; omega), fstE_0] at h
     unfold Hid
     rw [← h]
     exact HF.out
    clear HF HZj
    have HF : Hid (type_of% HFk.out) := HFk.out
    clear HFk
    have hn1 : n ≤ 16 := by omega
    clear hn
    obtain ⟨u1, hu⟩ : ∃ u, u = wr := ⟨_, rfl⟩
    subst hu
    obtain ⟨c0, c1, c2, c3, c4, c5, c6, c7, c8, c9, c10⟩ := X11.cell (w := u1) ((HK.out.blk w.heap.size _ _ _ HX.out (by decide)).trans HX.out)
    obtain ⟨n1, hnn⟩ : ∃ n1, n1 = n := ⟨_, rfl⟩
    subst hnn
    go_wp2
    have HZ2' : Hid (fstE z1 (frst (fun d : FunD => okE (!decide ((nT : Int) ≤ d.t)) 8) LF) = z2) := by unfold Hid; rw [HZ1e.out]; exact HZ2.out
    go_loopw [43] (fun iv wr => ∃ (j n : Nat) (acc : Int), iv = .int .i64 (j : Int) ∧ j ≤ nF ∧ n ≤ 16 + j * 1 ∧ Hid (FS wr w.heap.size v1.heap.size n acc) ∧ Hid (fstE acc (frst (fun d : FunD => okE (!decide ((nT : Int) ≤ d.t)) 8) (LF.drop j)) = z2) ∧ Hid (Below w.heap.size w wr) ∧ Hid (Kp notF V wr)) (fun iv _ => nF - (intOf iv).toNat)
    case atStart =>
     exact ⟨0, n1, z1, rfl, by omega, by omega, HF, by unfold Hid; rw [List.drop_zero]; exact HZ2'.out, HB, HK⟩
    case round =>
     clear HF HB HK c0 c1 c2 c3 c4 c5 c6 c7 c8 c9 c10
     obtain ⟨j, n, acc, rfl, hj, hn, HF, HZj, HB, HK⟩ := hrel
     by_cases hlt : j < nF
     ·skip
      have hxx : j < LF.length := by rw [HLF.out]; exact hlt
      have HXX : Hid (j < LF.length) := hxx
      obtain ⟨b, f, rfl, hbN, hcl⟩ := RF.out.at'.resolve_left (fun e => by rw [e] at hxx; exact absurd hxx (by simp))
      have HC : Hid (∀ r, r < 3 → wr.cell? ⟨b, f + j * 3 + r, none⟩ = (FunD.cells LF[j])[r]?) := fun r hr => by
       rw [HB.out.cell (p := ⟨b, f + j * 3 + r, none⟩) hbN]
       exact hcl j hxx r hr
      have HAT : Hid (∀ wv, Below w.heap.size w wv → ∀ i (h : i < LF.length) r, r < 3 → wv.cell? ⟨b, f + i * 3 + r, none⟩ = (FunD.cells LF[i])[r]?) := fun wv hb i h r hr => by
       rw [hb.cell (p := ⟨b, f + i * 3 + r, none⟩) hbN]
       exact hcl i h r hr
      have HMEM : Hid (LF[j] ∈ LF ∧ FunD.ok w LF[j]) := ⟨List.getElem_mem hxx, RF.out.all _ (List.getElem_mem hxx)⟩
      have hki0 : (0 : Int) ≤ (j : Int) := by omega
      have hki1 : (j : Int) < (nF : Int) := by omega
      have hwz := HB.out.size
      have HZ1 : Hid (fstE (fstE acc ((fun d : FunD => okE (!decide ((nT : Int) ≤ d.t)) 8) LF[j])) (frst (fun d : FunD => okE (!decide ((nT : Int) ≤ d.t)) 8) (LF.drop (j + 1))) = z2) := by
       have := HZj.out
       rw [frst_drop _ _ _ hxx, ← fstE_assoc] at this
       exact this
      generalize LF[j] = d at HC HZ1
      clear hcl hxx HMEM HAT HZj
      obtain ⟨dt, ⟨lo, ln, lc, lx⟩, bo, bc, bb'⟩ := d
      have e0 : wr.cell? ⟨b, f + j * 3, none⟩ = some (.int .i64 dt) := HC.out 0 (by omega)
      have e1 : wr.cell? ⟨b, f + j * 3 + 1, none⟩ = some (.slice lo ln lc) := HC.out 1 (by omega)
      have e2 : wr.cell? ⟨b, f + j * 3 + 2, none⟩ = some (.slice bo bb'.length bc) := HC.out 2 (by omega)
      have hbw : Below wr.heap.size wr (wr.alloc (.cells #[.int .i64 dt, .slice lo ln lc, .slice bo bb'.length bc] 50)) := (Below.refl _ _).alloc (Nat.le_refl _) _
      have HBX : Hid (Below w.heap.size w (wr.alloc (.cells #[.int .i64 dt, .slice lo ln lc, .slice bo bb'.length bc] 50))) := HB.out.trans (hbw.mono hwz)
      have HFX : Hid (FS (wr.alloc (.cells #[.int .i64 dt, .slice lo ln lc, .slice bo bb'.length bc] 50)) w.heap.size v1.heap.size n acc) := HF.out.below hbw
      have HKX : Hid (Kp notF V (wr.alloc (.cells #[.int .i64 dt, .slice lo ln lc, .slice bo bb'.length bc] 50))) := HK.out.trans (Kp.below _ hbw)
      have HYX : Hid ((wr.alloc (.cells #[.int .i64 dt, .slice lo ln lc, .slice bo bb'.length bc] 50)).heap[wr.heap.size]? = some (.cells #[.int .i64 dt, .slice lo ln lc, .slice bo bb'.length bc] 50 (0, 0))) := new_block _ _
      obtain ⟨c0, c1, c2, c3, c4, c5, c6, c7, c8, c9, c10⟩ := X11.cell (w := (wr.alloc (.cells #[.int .i64 dt, .slice lo ln lc, .slice bo bb'.length bc] 50))) ((HKX.out.blk w.heap.size _ _ _ HX.out (by decide)).trans HX.out)
      have z0 : (wr.alloc (.cells #[.int .i64 dt, .slice lo ln lc, .slice bo bb'.length bc] 50)).cell? ⟨wr.heap.size, 0, none⟩ = some (.int .i64 dt) := cell_at HYX.out 0 rfl
      have z1 : (wr.alloc (.cells #[.int .i64 dt, .slice lo ln lc, .slice bo bb'.length bc] 50)).cell? ⟨wr.heap.size, 1, none⟩ = some (.slice lo ln lc) := cell_at HYX.out 1 rfl
      have z2 : (wr.alloc (.cells #[.int .i64 dt, .slice lo ln lc, .slice bo bb'.length bc] 50)).cell? ⟨wr.heap.size, 2, none⟩ = some (.slice bo bb'.length bc) := cell_at HYX.out 2 rfl
      clear hbw HC HB HK HF
      go_wp2_with fail
      refine (fadd w.heap.size v1.heap.size n acc 8 (decide ((nT : Int) ≤ dt)) _ HFX.out (fun _ => by decide) (by omega) (by omega)).mono ?_
      rintro r y1 ⟨rfl, m1, hm1, f1, f2, f3⟩
      have HF1 : Hid (FS y1 w.heap.size v1.heap.size m1 (fstE acc (okE (!decide ((nT : Int) ≤ dt)) 8))) := f1
      have HB1 : Hid (Below w.heap.size w y1) := HBX.out.trans f2
      have HK1 : Hid (Kp notF V y1) := HKX.out.trans f3
      clear f1 f2 f3 HBX HFX HKX HYX c0 c1 c2 c3 c4 c5 c6 c7 c8 c9 c10 z0 z1 z2
      go_wp2
      go_roundw
      case rel => exact ⟨j + 1, m1, _, by go_num, by omega, by omega, HF1, HZ1, HB1, HK1⟩
      case measure => simp [intOf]; omega
     ·skip
      have HFk : Hid (FS wr w.heap.size v1.heap.size n z2) := by
       have h := HZj.out
       rw [frst_end _ _ _ (by rw [HLF.out]; omega), fstE_0] at h
       unfold Hid
       rw [← h]
       exact HF.out
      clear HF HZj
      have HF : Hid (type_of% HFk.out) := HFk.out
      clear HFk
      have hn2 : n ≤ 32 := by omega
      clear hn
      obtain ⟨u2, hu⟩ : ∃ u, u = wr := ⟨_, rfl⟩
      subst hu
      obtain ⟨c0, c1, c2, c3, c4, c5, c6, c7, c8, c9, c10⟩ := X11.cell (w := u2) ((HK.out.blk w.heap.size _ _ _ HX.out (by decide)).trans HX.out)
      obtain ⟨n2, hnn⟩ : ∃ n2, n2 = n := ⟨_, rfl⟩
      subst hnn
      obtain ⟨o, cap, es, g1, g2, g3, _, g5⟩ := HF.out.out
      have hcl : u2.cell? ⟨v1.heap.size, 0, none⟩ = some (.slice o n2 cap) := cell_at g1 0 rfl
      have HFI : Hid (type_of% (ffirst u2 w.heap.size n2 cap o es g3 g2 (by omega))) := ffirst u2 w.heap.size n2 cap o es g3 g2 (by omega)
      rw [← g5] at HFI
      clear g1 g2 g3 g5
      go_wp2_with fail
      refine HFI.out.mono ?_
      rintro r ub ⟨rfl, hu⟩
      rw [hu]
      clear hu
      by_cases h2 : z2 = 0
      ·skip
       have h2b : (z2 == 0) = true := by simp [h2]
       have h2c : (z2 != 0) = false := by simp [h2]
       have HF' : Hid (FS u2 w.heap.size v1.heap.size n2 0) := by have := HF.out; rw [h2] at this; exact this
       have H2 : Hid (z2 = 0) := h2
       clear HF h2 hcl HFI
       have HF : Hid (type_of% HF'.out) := HF'.out
       clear HF'
       obtain ⟨z3, hz3⟩ : ∃ z3, z3 = expD ((nI : Int) + (nF : Int)) [] LE := ⟨_, rfl⟩
       have HZ3 : Hid (type_of% hz3) := hz3
       clear hz3
       have hmd : (0 : Int) ≤ ((nI : Int) + (nF : Int)) := by omega
       go_wp2
       go_loopw [70] (fun iv wr => ∃ (j n : Nat) (acc : Int), iv = .int .i64 (j : Int) ∧ j ≤ nE ∧ n ≤ 32 + j * 9 ∧ Hid (FS wr w.heap.size v1.heap.size n acc) ∧ Hid (fstE acc (expD ((nI : Int) + (nF : Int)) (LE.take j) (LE.drop j)) = z3) ∧ Hid (Below w.heap.size w wr) ∧ Hid (Kp notF V wr)) (fun iv _ => nE - (intOf iv).toNat)
       case atStart =>
        exact ⟨0, n2, 0, rfl, by omega, by omega, HF, by unfold Hid; rw [fstE_zero, List.take_zero, List.drop_zero]; exact HZ3.out.symm, HB, HK⟩
       case round =>
        clear HF HB HK c0 c1 c2 c3 c4 c5 c6 c7 c8 c9 c10
        obtain ⟨j, n, acc, rfl, hj, hn, HF, HZj, HB, HK⟩ := hrel
        obtain ⟨ux, hu⟩ : ∃ u, u = wr := ⟨_, rfl⟩; subst hu
        by_cases hlt : j < nE
        ·skip
         have hxx : j < LE.length := by rw [HLE.out]; exact hlt
         have HXX : Hid (j < LE.length) := hxx
         obtain ⟨b, f, rfl, hbN, hcl⟩ := RE.out.at'.resolve_left (fun e => by rw [e] at hxx; exact absurd hxx (by simp))
         have HC : Hid (∀ r, r < 2 → ux.cell? ⟨b, f + j * 2 + r, none⟩ = (NamD.cells LE[j])[r]?) := fun r hr => by
          rw [HB.out.cell (p := ⟨b, f + j * 2 + r, none⟩) hbN]
          exact hcl j hxx r hr
         have HAT : Hid (∀ wv, Below w.heap.size w wv → ∀ i (h : i < LE.length) r, r < 2 → wv.cell? ⟨b, f + i * 2 + r, none⟩ = (NamD.cells LE[i])[r]?) := fun wv hb i h r hr => by
          rw [hb.cell (p := ⟨b, f + i * 2 + r, none⟩) hbN]
          exact hcl i h r hr
         have HMEM : Hid (LE[j] ∈ LE ∧ NamD.ok w LE[j]) := ⟨List.getElem_mem hxx, RE.out.all _ (List.getElem_mem hxx)⟩
         have hki0 : (0 : Int) ≤ (j : Int) := by omega
         have hki1 : (j : Int) < (nE : Int) := by omega
         have hwz := HB.out.size
         have HZ1 : Hid (fstE (fstE (fstE acc (okE (!decide (((nI : Int) + (nF : Int)) ≤ LE[j].n)) 8)) (frst (fun y => okE (!(LE[j].s.toList == y.s.toList)) 12) (LE.take j))) (expD ((nI : Int) + (nF : Int)) (LE.take (j + 1)) (LE.drop (j + 1))) = z3) := by
          have := HZj.out
          rw [expD_at _ _ _ hxx, ← fstE_assoc, ← fstE_assoc] at this
          exact this
         generalize LE[j] = d at HC HZ1
         clear hcl hxx HMEM HZj
         obtain ⟨ds, dn⟩ := d
         have e0 : ux.cell? ⟨b, f + j * 2, none⟩ = some (.string ds) := HC.out 0 (by omega)
         have e1 : ux.cell? ⟨b, f + j * 2 + 1, none⟩ = some (.int .i64 dn) := HC.out 1 (by omega)
         have hbw : Below ux.heap.size ux (ux.alloc (.cells #[.string ds, .int .i64 dn] 73)) := (Below.refl _ _).alloc (Nat.le_refl _) _
         have HBX : Hid (Below w.heap.size w (ux.alloc (.cells #[.string ds, .int .i64 dn] 73))) := HB.out.trans (hbw.mono hwz)
         have HFX : Hid (FS (ux.alloc (.cells #[.string ds, .int .i64 dn] 73)) w.heap.size v1.heap.size n acc) := HF.out.below hbw
         have HKX : Hid (Kp notF V (ux.alloc (.cells #[.string ds, .int .i64 dn] 73))) := HK.out.trans (Kp.below _ hbw)
         have HYX : Hid ((ux.alloc (.cells #[.string ds, .int .i64 dn] 73)).heap[ux.heap.size]? = some (.cells #[.string ds, .int .i64 dn] 73 (0, 0))) := new_block _ _
         obtain ⟨c0, c1, c2, c3, c4, c5, c6, c7, c8, c9, c10⟩ := X11.cell (w := (ux.alloc (.cells #[.string ds, .int .i64 dn] 73))) ((HKX.out.blk w.heap.size _ _ _ HX.out (by decide)).trans HX.out)
         have z0 : (ux.alloc (.cells #[.string ds, .int .i64 dn] 73)).cell? ⟨ux.heap.size, 0, none⟩ = some (.string ds) := cell_at HYX.out 0 rfl
         have z1 : (ux.alloc (.cells #[.string ds, .int .i64 dn] 73)).cell? ⟨ux.heap.size, 1, none⟩ = some (.int .i64 dn) := cell_at HYX.out 1 rfl
         clear hbw HC HB HK HF
         go_wp2_with fail
         refine (fadd w.heap.size v1.heap.size n acc 8 (decide (((nI : Int) + (nF : Int)) ≤ dn)) _ HFX.out (fun _ => by decide) (by omega) (by omega)).mono ?_
         rintro r y1 ⟨rfl, m1, hm1, f1, f2, f3⟩
         have HF1 : Hid (FS y1 w.heap.size v1.heap.size m1 (fstE acc (okE (!decide (((nI : Int) + (nF : Int)) ≤ dn)) 8))) := f1
         have HB1 : Hid (Below w.heap.size w y1) := HBX.out.trans f2
         have HK1 : Hid (Kp notF V y1) := HKX.out.trans f3
         have HY1 : Hid (y1.heap[ux.heap.size]? = some (.cells #[.string ds, .int .i64 dn] 73 (0, 0))) := (f3.blk _ _ _ _ HYX.out (by decide)).trans HYX.out
         clear f1 f2 f3 HBX HFX HKX HYX c0 c1 c2 c3 c4 c5 c6 c7 c8 c9 c10 z0 z1 e0 e1
         generalize fstE acc (okE (!decide (((nI : Int) + (nF : Int)) ≤ dn)) 8) = ac at HF1 HZ1
         obtain ⟨za, hza⟩ : ∃ za, za = fstE ac (frst (fun y : NamD => okE (!(ds.toList == y.s.toList)) 12) (LE.take j)) := ⟨_, rfl⟩
         have HZA : Hid (type_of% hza) := hza
         have HZ1b : Hid (fstE za (expD ((nI : Int) + (nF : Int)) (LE.take (j + 1)) (LE.drop (j + 1))) = z3) := by unfold Hid; rw [hza]; exact HZ1.out
         clear HZ1 hza
         obtain ⟨c0, c1, c2, c3, c4, c5, c6, c7, c8, c9, c10⟩ := X11.cell (w := y1) ((HK1.out.blk w.heap.size _ _ _ HX.out (by decide)).trans HX.out)
         have hjc : j ≤ kE := by omega
         go_wp2
         go_loopw [85] (fun iv wr => ∃ (i m : Nat) (av : Int), iv = .int .i64 (i : Int) ∧ i ≤ j ∧ m ≤ m1 + i ∧ Hid (FS wr w.heap.size v1.heap.size m av) ∧ Hid (fstE av (frst (fun y : NamD => okE (!(ds.toList == y.s.toList)) 12) ((LE.take j).drop i)) = za) ∧ Hid (Below w.heap.size w wr) ∧ Hid (Kp notF V wr) ∧ Hid (Kp notF y1 wr)) (fun iv _ => j - (intOf iv).toNat)
         case atStart => exact ⟨0, m1, ac, rfl, by omega, by omega, HF1, by unfold Hid; rw [List.drop_zero]; exact HZA.out.symm, HB1, HK1, Kp.refl _ _⟩
         case round =>
          clear HF1 HB1 HK1 c0 c1 c2 c3 c4 c5 c6 c7 c8 c9 c10
          obtain ⟨i, m, av, rfl, hi, hm, HF2, HZ2i, HB2, HK2, HK3⟩ := hrel
          have hvz := HB2.out.size
          by_cases hij : i < j
          ·have hxi : i < LE.length := by have := HXX.out; omega
           have HC : Hid (∀ r, r < 2 → wr.cell? ⟨b, f + i * 2 + r, none⟩ = (NamD.cells LE[i])[r]?) := HAT.out _ HB2.out i hxi
           have HZ3i : Hid (fstE (fstE av (okE (!(ds.toList == LE[i].s.toList)) 12)) (frst (fun y : NamD => okE (!(ds.toList == y.s.toList)) 12) ((LE.take j).drop (i + 1))) = za) := by
            have := HZ2i.out
            rw [take_drop_at LE i j hij (by have := HXX.out; omega), frst_cons, ← fstE_assoc] at this
            exact this
           generalize LE[i] = o at HC HZ3i
           obtain ⟨os, on⟩ := o
           have e0 : wr.cell? ⟨b, f + i * 2, none⟩ = some (.string os) := HC.out 0 (by omega)
           have e1 : wr.cell? ⟨b, f + i * 2 + 1, none⟩ = some (.int .i64 on) := HC.out 1 (by omega)
           have hki2 : (0 : Int) ≤ (i : Int) := by omega
           have hki3 : (i : Int) < (j : Int) := by omega
           have hbw : Below wr.heap.size wr (wr.alloc (.cells #[.string os, .int .i64 on] 73)) := (Below.refl _ _).alloc (Nat.le_refl _) _
           have HBX : Hid (Below w.heap.size w (wr.alloc (.cells #[.string os, .int .i64 on] 73))) := HB2.out.trans (hbw.mono hvz)
           have HFX : Hid (FS (wr.alloc (.cells #[.string os, .int .i64 on] 73)) w.heap.size v1.heap.size m av) := HF2.out.below hbw
           have HKX : Hid (Kp notF V (wr.alloc (.cells #[.string os, .int .i64 on] 73))) := HK2.out.trans (Kp.below _ hbw)
           have HK3X : Hid (Kp notF y1 (wr.alloc (.cells #[.string os, .int .i64 on] 73))) := HK3.out.trans (Kp.below _ hbw)
           have HY3 : Hid ((wr.alloc (.cells #[.string os, .int .i64 on] 73)).heap[ux.heap.size]? = some (.cells #[.string ds, .int .i64 dn] 73 (0, 0))) := (HK3X.out.blk _ _ _ _ HY1.out (by decide)).trans HY1.out
           have HY4 : Hid ((wr.alloc (.cells #[.string os, .int .i64 on] 73)).heap[wr.heap.size]? = some (.cells #[.string os, .int .i64 on] 73 (0, 0))) := new_block _ _
           have z0 : (wr.alloc (.cells #[.string os, .int .i64 on] 73)).cell? ⟨ux.heap.size, 0, none⟩ = some (.string ds) := cell_at HY3.out 0 rfl
           have z1 : (wr.alloc (.cells #[.string os, .int .i64 on] 73)).cell? ⟨wr.heap.size, 0, none⟩ = some (.string os) := cell_at HY4.out 0 rfl
           clear hbw HC HB2 HK2 HF2 HK3 HZ2i hxi HY3 HY4
           go_wp2_with fail
           refine (fadd w.heap.size v1.heap.size m av 12 (ds.toList == os.toList) _ HFX.out (fun _ => by decide) (by omega) (by omega)).mono ?_
           rintro r y2 ⟨rfl, m2, hm2, f1, f2, f3⟩
           have HF3 : Hid (FS y2 w.heap.size v1.heap.size m2 (fstE av (okE (!(ds.toList == os.toList)) 12))) := f1
           have HB3 : Hid (Below w.heap.size w y2) := HBX.out.trans f2
           have HK4 : Hid (Kp notF V y2) := HKX.out.trans f3
           have HK5 : Hid (Kp notF y1 y2) := HK3X.out.trans f3
           clear f1 f2 f3 HBX HFX HKX HK3X z0 z1 e0 e1
           go_wp2
           go_roundw
           case rel => exact ⟨i + 1, m2, _, by go_num, by omega, by omega, HF3, HZ3i, HB3, HK4, HK5⟩
           case measure => simp [intOf]; omega
          ·have HF3 : Hid (FS wr w.heap.size v1.heap.size m za) := by
            have h := HZ2i.out
            rw [frst_end _ _ _ (by rw [List.length_take]; omega), fstE_0] at h
            unfold Hid
            rw [← h]
            exact HF2.out
           clear HF2 HZ2i HK3
           go_wp2
           go_roundw
           case rel => exact ⟨j + 1, m, za, by go_num, by omega, by omega, HF3, HZ1b, HB2, HK2⟩
           case measure => simp [intOf]; omega
        ·skip
         have HFk : Hid (FS ux w.heap.size v1.heap.size n z3) := by
          have h := HZj.out
          rw [show LE.drop j = [] from List.drop_eq_nil_of_le (by rw [HLE.out]; omega), show ∀ l, expD ((nI : Int) + (nF : Int)) l [] = 0 from fun _ => rfl, fstE_0] at h
          unfold Hid
          rw [← h]
          exact HF.out
         clear HF HZj
         have HF : Hid (type_of% HFk.out) := HFk.out
         clear HFk
         have hn3 : n ≤ 104 := by omega
         clear hn
         obtain ⟨u3, hu⟩ : ∃ u, u = ux := ⟨_, rfl⟩
         subst hu
         obtain ⟨n3, hnn⟩ : ∃ n2, n2 = n := ⟨_, rfl⟩
         subst hnn
         obtain ⟨c0, c1, c2, c3, c4, c5, c6, c7, c8, c9, c10⟩ := X11.cell (w := u3) ((HK.out.blk w.heap.size _ _ _ HX.out (by decide)).trans HX.out)
         by_cases hs : 0 < s
         ·skip
          have hsd : decide (0 < s) = true := decide_eq_true hs
          obtain ⟨hsn, hrn⟩ := Hsn.out (by simp) H2.out hs
          have HZSs : Hid (zS = fstE (okE isb 8) (okE (!decide (0 < (sn : Int) + (rn : Int))) 10)) := HZS.out.1 hs
          go_wp2_with fail
          refine (HSG.out (by simp) H2.out hs _ HB.out).mono ?_
          rintro r y1 ⟨rfl, b1⟩
          have HF' : Hid (FS (y1.alloc (.cells #[.slice so sn sc, .slice ro rn rc] 57)) w.heap.size v1.heap.size n3 z3) := (HF.out.below b1).below ((Below.refl _ _).alloc (Nat.le_refl _) _)
          have HB' : Hid (Below w.heap.size w (y1.alloc (.cells #[.slice so sn sc, .slice ro rn rc] 57))) := (HB.out.trans (b1.mono HB.out.size)).alloc ((HB.out.trans (b1.mono HB.out.size)).size) _
          have HK' : Hid (Kp notF V (y1.alloc (.cells #[.slice so sn sc, .slice ro rn rc] 57))) := (HK.out.trans (Kp.below _ b1)).trans (Kp.below _ ((Below.refl _ _).alloc (Nat.le_refl _) _))
          have HS1 : Hid ((y1.alloc (.cells #[.slice so sn sc, .slice ro rn rc] 57)).heap[y1.heap.size]? = some (.cells #[.slice so sn sc, .slice ro rn rc] 57 (0, 0))) := new_block _ _
          clear b1 HF HB HK c0 c1 c2 c3 c4 c5 c6 c7 c8 c9 c10
          have HF : Hid (type_of% HF'.out) := HF'.out
          have HB : Hid (type_of% HB'.out) := HB'.out
          have HK : Hid (type_of% HK'.out) := HK'.out
          clear HF' HB' HK' 
          go_wp2_with fail
          refine (fadd w.heap.size v1.heap.size n3 z3 8 (!isb) _ HF.out (fun _ => by decide) (by omega) (by omega)).mono ?_
          rintro r y2 ⟨rfl, m2, hm2, f1, f2, f3⟩
          have HF' : Hid (FS y2 w.heap.size v1.heap.size m2 (fstE z3 (okE (!!isb) 8))) := f1
          have HB' : Hid (Below w.heap.size w y2) := HB.out.trans f2
          have HK' : Hid (Kp notF V y2) := HK.out.trans f3
          have HQ : Hid (Kp notF (y1.alloc (.cells #[.slice so sn sc, .slice ro rn rc] 57)) y2) := f3
          clear f1 f2 f3 HF HB HK
          have HF : Hid (type_of% HF'.out) := HF'.out
          have HB : Hid (type_of% HB'.out) := HB'.out
          have HK : Hid (type_of% HK'.out) := HK'.out
          clear HF' HB' HK' 
          rw [Bool.not_not] at HF
          have HS2 : Hid (y2.heap[y1.heap.size]? = some (.cells #[.slice so sn sc, .slice ro rn rc] 57 (0, 0))) := (HQ.out.blk _ _ _ _ HS1.out (by decide)).trans HS1.out
          have q0 : y2.cell? ⟨y1.heap.size, 0, none⟩ = some (.slice so sn sc) := cell_at HS2.out 0 rfl
          have q1 : y2.cell? ⟨y1.heap.size, 1, none⟩ = some (.slice ro rn rc) := cell_at HS2.out 1 rfl
          clear HQ
          go_wp2_with fail
          refine (fadd w.heap.size v1.heap.size m2 _ 10 (decide (0 < (sn : Int) + (rn : Int))) _ HF.out (fun _ => by decide) (by omega) (by omega)).mono ?_
          rintro r y3 ⟨rfl, m3, hm3, f1, f2, f3⟩
          have HF' : Hid (FS y3 w.heap.size v1.heap.size m3 (fstE (fstE z3 (okE isb 8)) (okE (!decide (0 < (sn : Int) + (rn : Int))) 10))) := f1
          have HB' : Hid (Below w.heap.size w y3) := HB.out.trans f2
          have HK' : Hid (Kp notF V y3) := HK.out.trans f3
          have HQ : Hid (Kp notF y2 y3) := f3
          clear f1 f2 f3 HF HB HK
          have HF : Hid (type_of% HF'.out) := HF'.out
          have HB : Hid (type_of% HB'.out) := HB'.out
          have HK : Hid (type_of% HK'.out) := HK'.out
          clear HF' HB' HK' 
          rw [fstE_assoc, ← HZSs.out] at HF
          obtain ⟨z4, hz4⟩ : ∃ z4, z4 = fstE z3 zS := ⟨_, rfl⟩
          rw [← hz4] at HF
          have HZ4 : Hid (z4 = fstE (expD ((nI : Int) + (nF : Int)) [] LE) zS) := by unfold Hid; rw [← HZ3.out]; exact hz4
          clear hz4 q0 q1 HQ HS1 HS2
          obtain ⟨c0, c1, c2, c3, c4, c5, c6, c7, c8, c9, c10⟩ := X11.cell (w := y3) ((HK.out.blk w.heap.size _ _ _ HX.out (by decide)).trans HX.out)
          obtain ⟨z5, hz5⟩ : ∃ z5, z5 = fstE z4 (frst (eleD t ((nI : Int) + (nF : Int))) LL) := ⟨_, rfl⟩
          have HZ5 : Hid (type_of% hz5) := hz5
          clear hz5
          have HZf : Hid (fstE z5 (okE (!(decide (0 < (nD : Int)) && q == 0)) 8) = z) := by unfold Hid; rw [HZ5.out, HZ4.out]; exact HZ.out
          go_wp2
          go_loopw [123] (fun iv wr => ∃ (j n : Nat) (acc : Int), iv = .int .i64 (j : Int) ∧ j ≤ nL ∧ n ≤ 106 + j * 17 ∧ Hid (FS wr w.heap.size v1.heap.size n acc) ∧ Hid (fstE acc (frst (eleD t ((nI : Int) + (nF : Int))) (LL.drop j)) = z5) ∧ Hid (Below w.heap.size w wr) ∧ Hid (Kp notF V wr)) (fun iv _ => nL - (intOf iv).toNat)
          case atStart =>
           exact ⟨0, m3, z4, rfl, by omega, by omega, HF, by unfold Hid; rw [List.drop_zero]; exact HZ5.out.symm, HB, HK⟩
          case round =>
           clear HF HB HK c0 c1 c2 c3 c4 c5 c6 c7 c8 c9 c10
           obtain ⟨j, n, acc, rfl, hj, hn, HF, HZj, HB, HK⟩ := hrel
           obtain ⟨ux, hu⟩ : ∃ u, u = wr := ⟨_, rfl⟩; subst hu
           by_cases hlt : j < nL
           ·skip
            have hxx : j < LL.length := by rw [HLL.out]; exact hlt
            have HXX : Hid (j < LL.length) := hxx
            obtain ⟨b, f, rfl, hbN, hcl⟩ := RL.out.at'.resolve_left (fun e => by rw [e] at hxx; exact absurd hxx (by simp))
            have HC : Hid (∀ r, r < 2 → ux.cell? ⟨b, f + j * 2 + r, none⟩ = (EleD.cells LL[j])[r]?) := fun r hr => by
             rw [HB.out.cell (p := ⟨b, f + j * 2 + r, none⟩) hbN]
             exact hcl j hxx r hr
            have HAT : Hid (∀ wv, Below w.heap.size w wv → ∀ i (h : i < LL.length) r, r < 2 → wv.cell? ⟨b, f + i * 2 + r, none⟩ = (EleD.cells LL[i])[r]?) := fun wv hb i h r hr => by
             rw [hb.cell (p := ⟨b, f + i * 2 + r, none⟩) hbN]
             exact hcl i h r hr
            have HMEM : Hid (LL[j] ∈ LL ∧ EleD.ok w LL[j]) := ⟨List.getElem_mem hxx, RL.out.all _ (List.getElem_mem hxx)⟩
            have hki0 : (0 : Int) ≤ (j : Int) := by omega
            have hki1 : (j : Int) < (nL : Int) := by omega
            have hwz := HB.out.size
            have HZ1 : Hid (fstE (fstE (fstE acc (okE (!(t == 0)) 8)) (frst (fun x => okE (!decide (((nI : Int) + (nF : Int)) ≤ x)) 8) LL[j].f.xs)) (frst (eleD t ((nI : Int) + (nF : Int))) (LL.drop (j + 1))) = z5) := by
             have := HZj.out
             rw [frst_drop _ _ _ hxx, ← fstE_assoc, eleD, ← fstE_assoc] at this
             exact this
            have HD16 : Hid (LL[j].f.n ≤ 16) := HGL.out _ HMEM.out.1
            generalize LL[j] = d at HC HZ1 HMEM HD16
            clear hcl hxx HZj HAT
            obtain ⟨da, df⟩ := d
            have HO1 : Hid (df.ok .i64 w) := HMEM.out.2.2
            have h16 : df.n ≤ 16 := HD16.out
            clear HD16 HMEM
            have e0 : ux.cell? ⟨b, f + j * 2, none⟩ = some (.int .i64 da) := HC.out 0 (by omega)
            have e1 : ux.cell? ⟨b, f + j * 2 + 1, none⟩ = some (.slice df.o df.n df.cap) := HC.out 1 (by omega)
            have hbw : Below ux.heap.size ux (ux.alloc (.cells #[.int .i64 da, .slice df.o df.n df.cap] 78)) := (Below.refl _ _).alloc (Nat.le_refl _) _
            have HBX : Hid (Below w.heap.size w (ux.alloc (.cells #[.int .i64 da, .slice df.o df.n df.cap] 78))) := HB.out.trans (hbw.mono hwz)
            have HFX : Hid (FS (ux.alloc (.cells #[.int .i64 da, .slice df.o df.n df.cap] 78)) w.heap.size v1.heap.size n acc) := HF.out.below hbw
            have HKX : Hid (Kp notF V (ux.alloc (.cells #[.int .i64 da, .slice df.o df.n df.cap] 78))) := HK.out.trans (Kp.below _ hbw)
            have HYX : Hid ((ux.alloc (.cells #[.int .i64 da, .slice df.o df.n df.cap] 78)).heap[ux.heap.size]? = some (.cells #[.int .i64 da, .slice df.o df.n df.cap] 78 (0, 0))) := new_block _ _
            obtain ⟨c0, c1, c2, c3, c4, c5, c6, c7, c8, c9, c10⟩ := X11.cell (w := (ux.alloc (.cells #[.int .i64 da, .slice df.o df.n df.cap] 78))) ((HKX.out.blk w.heap.size _ _ _ HX.out (by decide)).trans HX.out)
            have z0 : (ux.alloc (.cells #[.int .i64 da, .slice df.o df.n df.cap] 78)).cell? ⟨ux.heap.size, 0, none⟩ = some (.int .i64 da) := cell_at HYX.out 0 rfl
            have z1 : (ux.alloc (.cells #[.int .i64 da, .slice df.o df.n df.cap] 78)).cell? ⟨ux.heap.size, 1, none⟩ = some (.slice df.o df.n df.cap) := cell_at HYX.out 1 rfl
            clear hbw HC HB HK HF
            go_wp2_with fail
            refine (fadd w.heap.size v1.heap.size n acc 8 (t == 0) _ HFX.out (fun _ => by decide) (by omega) (by omega)).mono ?_
            rintro r y1 ⟨rfl, m1, hm1, f1, f2, f3⟩
            have HF1 : Hid (FS y1 w.heap.size v1.heap.size m1 (fstE acc (okE (!(t == 0)) 8))) := f1
            have HB1 : Hid (Below w.heap.size w y1) := HBX.out.trans f2
            have HK1 : Hid (Kp notF V y1) := HKX.out.trans f3
            have HY1 : Hid (y1.heap[ux.heap.size]? = some (.cells #[.int .i64 da, .slice df.o df.n df.cap] 78 (0, 0))) := (f3.blk _ _ _ _ HYX.out (by decide)).trans HYX.out
            clear f1 f2 f3 HBX HFX HKX HYX c0 c1 c2 c3 c4 c5 c6 c7 c8 c9 c10 z0 z1 e0 e1
            generalize fstE acc (okE (!(t == 0)) 8) = ac at HF1 HZ1
            obtain ⟨za, hza⟩ : ∃ za, za = fstE ac (frst (fun x => okE (!decide (((nI : Int) + (nF : Int)) ≤ x)) 8) df.xs) := ⟨_, rfl⟩
            have HZA : Hid (type_of% hza) := hza
            have HZ1b : Hid (fstE za (frst (eleD t ((nI : Int) + (nF : Int))) (LL.drop (j + 1))) = z5) := by unfold Hid; rw [hza]; exact HZ1.out
            have hcp := HO1.out.le
            have hmo := HO1.out.most
            unfold maxLen at hmo
            have HLN : Hid (df.xs.length = df.n) := HO1.out.len
            have HAT : Hid (type_of% (HO1.out.at1 (Nat.le_refl _))) := HO1.out.at1 (Nat.le_refl _)
            have z1 : y1.cell? ⟨ux.heap.size, 1, none⟩ = some (.slice df.o df.n df.cap) := cell_at HY1.out 1 rfl
            clear HZ1 hza HO1 HY1
            obtain ⟨fo, fn, fk, fx⟩ := df
            dsimp only at *
            go_wp2
            go_loopw [134] (fun iv wr => ∃ (i m : Nat) (av : Int), iv = .int .i64 (i : Int) ∧ i ≤ fn ∧ m ≤ m1 + i ∧ Hid (FS wr w.heap.size v1.heap.size m av) ∧ Hid (fstE av (frst (fun x => okE (!decide (((nI : Int) + (nF : Int)) ≤ x)) 8) (fx.drop i)) = za) ∧ Hid (Below w.heap.size w wr) ∧ Hid (Kp notF V wr)) (fun iv _ => fn - (intOf iv).toNat)
            case atStart => exact ⟨0, m1, ac, rfl, by omega, by omega, HF1, by unfold Hid; rw [List.drop_zero]; exact HZA.out.symm, HB1, HK1⟩
            case round =>
             clear HF1 HB1 HK1 z1
             obtain ⟨i, m, av, rfl, hi, hm, HF2, HZ2i, HB2, HK2⟩ := hrel
             by_cases hij : i < fn
             ·have hx9 : i < fx.length := by rw [HLN.out]; exact hij
              have HZ3i : Hid (fstE (fstE av (okE (!decide (((nI : Int) + (nF : Int)) ≤ fx[i])) 8)) (frst (fun x => okE (!decide (((nI : Int) + (nF : Int)) ≤ x)) 8) (fx.drop (i + 1))) = za) := by
               have := HZ2i.out
               rw [frst_drop _ _ _ hx9, ← fstE_assoc] at this
               exact this
              obtain ⟨b9, f9, rfl, hb9, hc9⟩ := HAT.out.resolve_left (fun e => by rw [e] at hx9; exact absurd hx9 (by simp))
              have e9 : wr.cell? ⟨b9, f9 + i, none⟩ = some (.int .i64 fx[i]) := by
               rw [HB2.out.cell (p := ⟨b9, f9 + i, none⟩) hb9]
               have := hc9 i hx9 0 (by omega)
               rw [Nat.mul_one, Nat.add_zero] at this
               rw [this]
               rfl
              generalize fx[i] = x9 at HZ3i e9
              clear hc9 hx9 HZ2i
              have hq0 : (0 : Int) ≤ (i : Int) := by omega
              have hq1 : (i : Int) < (fn : Int) := by omega
              go_wp2_with fail
              refine (fadd w.heap.size v1.heap.size m av 8 (decide (((nI : Int) + (nF : Int)) ≤ x9)) _ HF2.out (fun _ => by decide) (by omega) (by omega)).mono ?_
              rintro r y2 ⟨rfl, m2, hm2, f1, f2, f3⟩
              have HF3 : Hid (FS y2 w.heap.size v1.heap.size m2 (fstE av (okE (!decide (((nI : Int) + (nF : Int)) ≤ x9)) 8))) := f1
              have HB3 : Hid (Below w.heap.size w y2) := HB2.out.trans f2
              have HK4 : Hid (Kp notF V y2) := HK2.out.trans f3
              clear f1 f2 f3 HB2 HF2 HK2 e9
              go_wp2
              go_roundw
              case rel => exact ⟨i + 1, m2, _, by go_num, by omega, by omega, HF3, HZ3i, HB3, HK4⟩
              case measure => simp [intOf]; omega
             ·have HF3 : Hid (FS wr w.heap.size v1.heap.size m za) := by
               have h := HZ2i.out
               rw [frst_end _ _ _ (by rw [HLN.out]; omega), fstE_0] at h
               unfold Hid
               rw [← h]
               exact HF2.out
              clear HF2 HZ2i
              go_wp2
              go_roundw
              case rel => exact ⟨j + 1, m, za, by go_num, by omega, by omega, HF3, HZ1b, HB2, HK2⟩
              case measure => simp [intOf]; omega
           ·skip
            have HFk : Hid (FS ux w.heap.size v1.heap.size n z5) := by
             have h := HZj.out
             rw [frst_end _ _ _ (by rw [HLL.out]; omega), fstE_0] at h
             unfold Hid
             rw [← h]
             exact HF.out
            clear HF HZj
            have HF : Hid (type_of% HFk.out) := HFk.out
            clear HFk
            have hn5 : n ≤ 186 := by omega
            clear hn
            obtain ⟨u5, hu⟩ : ∃ u, u = ux := ⟨_, rfl⟩
            subst hu
            obtain ⟨n5, hnn⟩ : ∃ n2, n2 = n := ⟨_, rfl⟩
            subst hnn
            obtain ⟨c0, c1, c2, c3, c4, c5, c6, c7, c8, c9, c10⟩ := X11.cell (w := u5) ((HK.out.blk w.heap.size _ _ _ HX.out (by decide)).trans HX.out)
            by_cases hD0 : nD = 0
            ·skip
             have hDi : decide (0 < (nD : Int)) = false := decide_eq_false (by omega)
             have HZg : Hid (fstE z5 (okE (!false) 8) = z) := by have := HZf.out; rw [hDi] at this; exact this
             go_wp2_with fail
             refine (fadd w.heap.size v1.heap.size n5 z5 8 false _ HF.out (fun _ => by decide) (by omega) (by omega)).mono ?_
             rintro r y6 ⟨rfl, n6, hn6, f1, f2, f3⟩
             have HF' : Hid (FS y6 w.heap.size v1.heap.size n6 (fstE z5 (okE (!false) 8))) := f1
             have HB' : Hid (Below w.heap.size w y6) := HB.out.trans f2
             have HK' : Hid (Kp notF V y6) := HK.out.trans f3
             have HQ : Hid (Kp notF u5 y6) := f3
             clear f1 f2 f3 HF HB HK
             have HF : Hid (type_of% HF'.out) := HF'.out
             have HB : Hid (type_of% HB'.out) := HB'.out
             have HK : Hid (type_of% HK'.out) := HK'.out
             clear HF' HB' HK' 
             rw [HZg.out] at HF
             clear c0 c1 c2 c3 c4 c5 c6 c7 c8 c9 c10
             obtain ⟨o, cap, es, g1, g2, g3, _, g5⟩ := HF.out.out
             have hcl : y6.cell? ⟨v1.heap.size, 0, none⟩ = some (.slice o n6 cap) := cell_at g1 0 rfl
             have HFI : Hid (type_of% (ffirst y6 w.heap.size n6 cap o es g3 g2 (by omega))) := ffirst y6 w.heap.size n6 cap o es g3 g2 (by omega)
             rw [← g5] at HFI
             clear g1 g2 g3 g5
             go_wp2_with fail
             refine HFI.out.mono ?_
             rintro r ub ⟨rfl, hu⟩
             rw [hu]
             clear hu
             have HFin : Hid (zz = z) := by unfold Hid; rw [HZZ.out, if_pos (by simp), if_pos H2.out]
             go_wp2
             go_ret
             exact ⟨by rw [HFin.out]; rfl, HB.out⟩
            ·skip
             have hDi : decide (0 < (nD : Int)) = true := decide_eq_true (by omega)
             have HZg : Hid (fstE z5 (okE (!(q == 0)) 8) = z) := by have := HZf.out; rw [hDi] at this; exact this
             go_wp2_with fail
             refine (fadd w.heap.size v1.heap.size n5 z5 8 (q == 0) _ HF.out (fun _ => by decide) (by omega) (by omega)).mono ?_
             rintro r y6 ⟨rfl, n6, hn6, f1, f2, f3⟩
             have HF' : Hid (FS y6 w.heap.size v1.heap.size n6 (fstE z5 (okE (!(q == 0)) 8))) := f1
             have HB' : Hid (Below w.heap.size w y6) := HB.out.trans f2
             have HK' : Hid (Kp notF V y6) := HK.out.trans f3
             have HQ : Hid (Kp notF u5 y6) := f3
             clear f1 f2 f3 HF HB HK
             have HF : Hid (type_of% HF'.out) := HF'.out
             have HB : Hid (type_of% HB'.out) := HB'.out
             have HK : Hid (type_of% HK'.out) := HK'.out
             clear HF' HB' HK' 
             rw [HZg.out] at HF
             clear c0 c1 c2 c3 c4 c5 c6 c7 c8 c9 c10
             obtain ⟨o, cap, es, g1, g2, g3, _, g5⟩ := HF.out.out
             have hcl : y6.cell? ⟨v1.heap.size, 0, none⟩ = some (.slice o n6 cap) := cell_at g1 0 rfl
             have HFI : Hid (type_of% (ffirst y6 w.heap.size n6 cap o es g3 g2 (by omega))) := ffirst y6 w.heap.size n6 cap o es g3 g2 (by omega)
             rw [← g5] at HFI
             clear g1 g2 g3 g5
             go_wp2_with fail
             refine HFI.out.mono ?_
             rintro r ub ⟨rfl, hu⟩
             rw [hu]
             clear hu
             have HFin : Hid (zz = z) := by unfold Hid; rw [HZZ.out, if_pos (by simp), if_pos H2.out]
             go_wp2
             go_ret
             exact ⟨by rw [HFin.out]; rfl, HB.out⟩
         ·skip
          have hsd : decide (0 < s) = false := decide_eq_false hs
          obtain ⟨z4, hz4⟩ : ∃ z4, z4 = z3 := ⟨_, rfl⟩
          have HZ4 : Hid (z4 = fstE (expD ((nI : Int) + (nF : Int)) [] LE) zS) := by unfold Hid; rw [← HZ3.out, HZS.out.2 (by omega), fstE_0]; exact hz4
          rw [← hz4] at HF
          clear hz4
          obtain ⟨z5, hz5⟩ : ∃ z5, z5 = fstE z4 (frst (eleD t ((nI : Int) + (nF : Int))) LL) := ⟨_, rfl⟩
          have HZ5 : Hid (type_of% hz5) := hz5
          clear hz5
          have HZf : Hid (fstE z5 (okE (!(decide (0 < (nD : Int)) && q == 0)) 8) = z) := by unfold Hid; rw [HZ5.out, HZ4.out]; exact HZ.out
          go_wp2
          go_loopw [123] (fun iv wr => ∃ (j n : Nat) (acc : Int), iv = .int .i64 (j : Int) ∧ j ≤ nL ∧ n ≤ 106 + j * 17 ∧ Hid (FS wr w.heap.size v1.heap.size n acc) ∧ Hid (fstE acc (frst (eleD t ((nI : Int) + (nF : Int))) (LL.drop j)) = z5) ∧ Hid (Below w.heap.size w wr) ∧ Hid (Kp notF V wr)) (fun iv _ => nL - (intOf iv).toNat)
          case atStart =>
           exact ⟨0, n3, z4, rfl, by omega, by omega, HF, by unfold Hid; rw [List.drop_zero]; exact HZ5.out.symm, HB, HK⟩
          case round =>
           clear HF HB HK c0 c1 c2 c3 c4 c5 c6 c7 c8 c9 c10
           obtain ⟨j, n, acc, rfl, hj, hn, HF, HZj, HB, HK⟩ := hrel
           obtain ⟨ux, hu⟩ : ∃ u, u = wr := ⟨_, rfl⟩; subst hu
           by_cases hlt : j < nL
           ·skip
            have hxx : j < LL.length := by rw [HLL.out]; exact hlt
            have HXX : Hid (j < LL.length) := hxx
            obtain ⟨b, f, rfl, hbN, hcl⟩ := RL.out.at'.resolve_left (fun e => by rw [e] at hxx; exact absurd hxx (by simp))
            have HC : Hid (∀ r, r < 2 → ux.cell? ⟨b, f + j * 2 + r, none⟩ = (EleD.cells LL[j])[r]?) := fun r hr => by
             rw [HB.out.cell (p := ⟨b, f + j * 2 + r, none⟩) hbN]
             exact hcl j hxx r hr
            have HAT : Hid (∀ wv, Below w.heap.size w wv → ∀ i (h : i < LL.length) r, r < 2 → wv.cell? ⟨b, f + i * 2 + r, none⟩ = (EleD.cells LL[i])[r]?) := fun wv hb i h r hr => by
             rw [hb.cell (p := ⟨b, f + i * 2 + r, none⟩) hbN]
             exact hcl i h r hr
            have HMEM : Hid (LL[j] ∈ LL ∧ EleD.ok w LL[j]) := ⟨List.getElem_mem hxx, RL.out.all _ (List.getElem_mem hxx)⟩
            have hki0 : (0 : Int) ≤ (j : Int) := by omega
            have hki1 : (j : Int) < (nL : Int) := by omega
            have hwz := HB.out.size
            have HZ1 : Hid (fstE (fstE (fstE acc (okE (!(t == 0)) 8)) (frst (fun x => okE (!decide (((nI : Int) + (nF : Int)) ≤ x)) 8) LL[j].f.xs)) (frst (eleD t ((nI : Int) + (nF : Int))) (LL.drop (j + 1))) = z5) := by
             have := HZj.out
             rw [frst_drop _ _ _ hxx, ← fstE_assoc, eleD, ← fstE_assoc] at this
             exact this
            have HD16 : Hid (LL[j].f.n ≤ 16) := HGL.out _ HMEM.out.1
            generalize LL[j] = d at HC HZ1 HMEM HD16
            clear hcl hxx HZj HAT
            obtain ⟨da, df⟩ := d
            have HO1 : Hid (df.ok .i64 w) := HMEM.out.2.2
            have h16 : df.n ≤ 16 := HD16.out
            clear HD16 HMEM
            have e0 : ux.cell? ⟨b, f + j * 2, none⟩ = some (.int .i64 da) := HC.out 0 (by omega)
            have e1 : ux.cell? ⟨b, f + j * 2 + 1, none⟩ = some (.slice df.o df.n df.cap) := HC.out 1 (by omega)
            have hbw : Below ux.heap.size ux (ux.alloc (.cells #[.int .i64 da, .slice df.o df.n df.cap] 78)) := (Below.refl _ _).alloc (Nat.le_refl _) _
            have HBX : Hid (Below w.heap.size w (ux.alloc (.cells #[.int .i64 da, .slice df.o df.n df.cap] 78))) := HB.out.trans (hbw.mono hwz)
            have HFX : Hid (FS (ux.alloc (.cells #[.int .i64 da, .slice df.o df.n df.cap] 78)) w.heap.size v1.heap.size n acc) := HF.out.below hbw
            have HKX : Hid (Kp notF V (ux.alloc (.cells #[.int .i64 da, .slice df.o df.n df.cap] 78))) := HK.out.trans (Kp.below _ hbw)
            have HYX : Hid ((ux.alloc (.cells #[.int .i64 da, .slice df.o df.n df.cap] 78)).heap[ux.heap.size]? = some (.cells #[.int .i64 da, .slice df.o df.n df.cap] 78 (0, 0))) := new_block _ _
            obtain ⟨c0, c1, c2, c3, c4, c5, c6, c7, c8, c9, c10⟩ := X11.cell (w := (ux.alloc (.cells #[.int .i64 da, .slice df.o df.n df.cap] 78))) ((HKX.out.blk w.heap.size _ _ _ HX.out (by decide)).trans HX.out)
            have z0 : (ux.alloc (.cells #[.int .i64 da, .slice df.o df.n df.cap] 78)).cell? ⟨ux.heap.size, 0, none⟩ = some (.int .i64 da) := cell_at HYX.out 0 rfl
            have z1 : (ux.alloc (.cells #[.int .i64 da, .slice df.o df.n df.cap] 78)).cell? ⟨ux.heap.size, 1, none⟩ = some (.slice df.o df.n df.cap) := cell_at HYX.out 1 rfl
            clear hbw HC HB HK HF
            go_wp2_with fail
            refine (fadd w.heap.size v1.heap.size n acc 8 (t == 0) _ HFX.out (fun _ => by decide) (by omega) (by omega)).mono ?_
            rintro r y1 ⟨rfl, m1, hm1, f1, f2, f3⟩
            have HF1 : Hid (FS y1 w.heap.size v1.heap.size m1 (fstE acc (okE (!(t == 0)) 8))) := f1
            have HB1 : Hid (Below w.heap.size w y1) := HBX.out.trans f2
            have HK1 : Hid (Kp notF V y1) := HKX.out.trans f3
            have HY1 : Hid (y1.heap[ux.heap.size]? = some (.cells #[.int .i64 da, .slice df.o df.n df.cap] 78 (0, 0))) := (f3.blk _ _ _ _ HYX.out (by decide)).trans HYX.out
            clear f1 f2 f3 HBX HFX HKX HYX c0 c1 c2 c3 c4 c5 c6 c7 c8 c9 c10 z0 z1 e0 e1
            generalize fstE acc (okE (!(t == 0)) 8) = ac at HF1 HZ1
            obtain ⟨za, hza⟩ : ∃ za, za = fstE ac (frst (fun x => okE (!decide (((nI : Int) + (nF : Int)) ≤ x)) 8) df.xs) := ⟨_, rfl⟩
            have HZA : Hid (type_of% hza) := hza
            have HZ1b : Hid (fstE za (frst (eleD t ((nI : Int) + (nF : Int))) (LL.drop (j + 1))) = z5) := by unfold Hid; rw [hza]; exact HZ1.out
            have hcp := HO1.out.le
            have hmo := HO1.out.most
            unfold maxLen at hmo
            have HLN : Hid (df.xs.length = df.n) := HO1.out.len
            have HAT : Hid (type_of% (HO1.out.at1 (Nat.le_refl _))) := HO1.out.at1 (Nat.le_refl _)
            have z1 : y1.cell? ⟨ux.heap.size, 1, none⟩ = some (.slice df.o df.n df.cap) := cell_at HY1.out 1 rfl
            clear HZ1 hza HO1 HY1
            obtain ⟨fo, fn, fk, fx⟩ := df
            dsimp only at *
            go_wp2
            go_loopw [134] (fun iv wr => ∃ (i m : Nat) (av : Int), iv = .int .i64 (i : Int) ∧ i ≤ fn ∧ m ≤ m1 + i ∧ Hid (FS wr w.heap.size v1.heap.size m av) ∧ Hid (fstE av (frst (fun x => okE (!decide (((nI : Int) + (nF : Int)) ≤ x)) 8) (fx.drop i)) = za) ∧ Hid (Below w.heap.size w wr) ∧ Hid (Kp notF V wr)) (fun iv _ => fn - (intOf iv).toNat)
            case atStart => exact ⟨0, m1, ac, rfl, by omega, by omega, HF1, by unfold Hid; rw [List.drop_zero]; exact HZA.out.symm, HB1, HK1⟩
            case round =>
             clear HF1 HB1 HK1 z1
             obtain ⟨i, m, av, rfl, hi, hm, HF2, HZ2i, HB2, HK2⟩ := hrel
             by_cases hij : i < fn
             ·have hx9 : i < fx.length := by rw [HLN.out]; exact hij
              have HZ3i : Hid (fstE (fstE av (okE (!decide (((nI : Int) + (nF : Int)) ≤ fx[i])) 8)) (frst (fun x => okE (!decide (((nI : Int) + (nF : Int)) ≤ x)) 8) (fx.drop (i + 1))) = za) := by
               have := HZ2i.out
               rw [frst_drop _ _ _ hx9, ← fstE_assoc] at this
               exact this
              obtain ⟨b9, f9, rfl, hb9, hc9⟩ := HAT.out.resolve_left (fun e => by rw [e] at hx9; exact absurd hx9 (by simp))
              have e9 : wr.cell? ⟨b9, f9 + i, none⟩ = some (.int .i64 fx[i]) := by
               rw [HB2.out.cell (p := ⟨b9, f9 + i, none⟩) hb9]
               have := hc9 i hx9 0 (by omega)
               rw [Nat.mul_one, Nat.add_zero] at this
               rw [this]
               rfl
              generalize fx[i] = x9 at HZ3i e9
              clear hc9 hx9 HZ2i
              have hq0 : (0 : Int) ≤ (i : Int) := by omega
              have hq1 : (i : Int) < (fn : Int) := by omega
              go_wp2_with fail
              refine (fadd w.heap.size v1.heap.size m av 8 (decide (((nI : Int) + (nF : Int)) ≤ x9)) _ HF2.out (fun _ => by decide) (by omega) (by omega)).mono ?_
              rintro r y2 ⟨rfl, m2, hm2, f1, f2, f3⟩
              have HF3 : Hid (FS y2 w.heap.size v1.heap.size m2 (fstE av (okE (!decide (((nI : Int) + (nF : Int)) ≤ x9)) 8))) := f1
              have HB3 : Hid (Below w.heap.size w y2) := HB2.out.trans f2
              have HK4 : Hid (Kp notF V y2) := HK2.out.trans f3
              clear f1 f2 f3 HB2 HF2 HK2 e9
              go_wp2
              go_roundw
              case rel => exact ⟨i + 1, m2, _, by go_num, by omega, by omega, HF3, HZ3i, HB3, HK4⟩
              case measure => simp [intOf]; omega
             ·have HF3 : Hid (FS wr w.heap.size v1.heap.size m za) := by
               have h := HZ2i.out
               rw [frst_end _ _ _ (by rw [HLN.out]; omega), fstE_0] at h
               unfold Hid
               rw [← h]
               exact HF2.out
              clear HF2 HZ2i
              go_wp2
              go_roundw
              case rel => exact ⟨j + 1, m, za, by go_num, by omega, by omega, HF3, HZ1b, HB2, HK2⟩
              case measure => simp [intOf]; omega
           ·skip
            have HFk : Hid (FS ux w.heap.size v1.heap.size n z5) := by
             have h := HZj.out
             rw [frst_end _ _ _ (by rw [HLL.out]; omega), fstE_0] at h
             unfold Hid
             rw [← h]
             exact HF.out
            clear HF HZj
            have HF : Hid (type_of% HFk.out) := HFk.out
            clear HFk
            have hn5 : n ≤ 186 := by omega
            clear hn
            obtain ⟨u5, hu⟩ : ∃ u, u = ux := ⟨_, rfl⟩
            subst hu
            obtain ⟨n5, hnn⟩ : ∃ n2, n2 = n := ⟨_, rfl⟩
            subst hnn
            obtain ⟨c0, c1, c2, c3, c4, c5, c6, c7, c8, c9, c10⟩ := X11.cell (w := u5) ((HK.out.blk w.heap.size _ _ _ HX.out (by decide)).trans HX.out)
            by_cases hD0 : nD = 0
            ·skip
             have hDi : decide (0 < (nD : Int)) = false := decide_eq_false (by omega)
             have HZg : Hid (fstE z5 (okE (!false) 8) = z) := by have := HZf.out; rw [hDi] at this; exact this
             go_wp2_with fail
             refine (fadd w.heap.size v1.heap.size n5 z5 8 false _ HF.out (fun _ => by decide) (by omega) (by omega)).mono ?_
             rintro r y6 ⟨rfl, n6, hn6, f1, f2, f3⟩
             have HF' : Hid (FS y6 w.heap.size v1.heap.size n6 (fstE z5 (okE (!false) 8))) := f1
             have HB' : Hid (Below w.heap.size w y6) := HB.out.trans f2
             have HK' : Hid (Kp notF V y6) := HK.out.trans f3
             have HQ : Hid (Kp notF u5 y6) := f3
             clear f1 f2 f3 HF HB HK
             have HF : Hid (type_of% HF'.out) := HF'.out
             have HB : Hid (type_of% HB'.out) := HB'.out
             have HK : Hid (type_of% HK'.out) := HK'.out
             clear HF' HB' HK' 
             rw [HZg.out] at HF
             clear c0 c1 c2 c3 c4 c5 c6 c7 c8 c9 c10
             obtain ⟨o, cap, es, g1, g2, g3, _, g5⟩ := HF.out.out
             have hcl : y6.cell? ⟨v1.heap.size, 0, none⟩ = some (.slice o n6 cap) := cell_at g1 0 rfl
             have HFI : Hid (type_of% (ffirst y6 w.heap.size n6 cap o es g3 g2 (by omega))) := ffirst y6 w.heap.size n6 cap o es g3 g2 (by omega)
             rw [← g5] at HFI
             clear g1 g2 g3 g5
             go_wp2_with fail
             refine HFI.out.mono ?_
             rintro r ub ⟨rfl, hu⟩
             rw [hu]
             clear hu
             have HFin : Hid (zz = z) := by unfold Hid; rw [HZZ.out, if_pos (by simp), if_pos H2.out]
             go_wp2
             go_ret
             exact ⟨by rw [HFin.out]; rfl, HB.out⟩
            ·skip
             have hDi : decide (0 < (nD : Int)) = true := decide_eq_true (by omega)
             have HZg : Hid (fstE z5 (okE (!(q == 0)) 8) = z) := by have := HZf.out; rw [hDi] at this; exact this
             go_wp2_with fail
             refine (fadd w.heap.size v1.heap.size n5 z5 8 (q == 0) _ HF.out (fun _ => by decide) (by omega) (by omega)).mono ?_
             rintro r y6 ⟨rfl, n6, hn6, f1, f2, f3⟩
             have HF' : Hid (FS y6 w.heap.size v1.heap.size n6 (fstE z5 (okE (!(q == 0)) 8))) := f1
             have HB' : Hid (Below w.heap.size w y6) := HB.out.trans f2
             have HK' : Hid (Kp notF V y6) := HK.out.trans f3
             have HQ : Hid (Kp notF u5 y6) := f3
             clear f1 f2 f3 HF HB HK
             have HF : Hid (type_of% HF'.out) := HF'.out
             have HB : Hid (type_of% HB'.out) := HB'.out
             have HK : Hid (type_of% HK'.out) := HK'.out
             clear HF' HB' HK' 
             rw [HZg.out] at HF
             clear c0 c1 c2 c3 c4 c5 c6 c7 c8 c9 c10
             obtain ⟨o, cap, es, g1, g2, g3, _, g5⟩ := HF.out.out
             have hcl : y6.cell? ⟨v1.heap.size, 0, none⟩ = some (.slice o n6 cap) := cell_at g1 0 rfl
             have HFI : Hid (type_of% (ffirst y6 w.heap.size n6 cap o es g3 g2 (by omega))) := ffirst y6 w.heap.size n6 cap o es g3 g2 (by omega)
             rw [← g5] at HFI
             clear g1 g2 g3 g5
             go_wp2_with fail
             refine HFI.out.mono ?_
             rintro r ub ⟨rfl, hu⟩
             rw [hu]
             clear hu
             have HFin : Hid (zz = z) := by unfold Hid; rw [HZZ.out, if_pos (by simp), if_pos H2.out]
             go_wp2
             go_ret
             exact ⟨by rw [HFin.out]; rfl, HB.out⟩
      ·skip
       have h2b : (z2 == 0) = false := by simp [h2]
       have h2c : (z2 != 0) = true := by simp [h2]
       have HFin : Hid (zz = z2) := by unfold Hid; rw [HZZ.out, if_pos (by simp), if_neg h2]
       go_wp2_with fail
       refine HFI.out.mono ?_
       rintro r ub ⟨rfl, hu⟩
       rw [hu]
       clear hu
       go_wp2
       refine bodyPost_ret (results_tmp rfl _ _ _) rfl ?_
       exact ⟨by rw [HFin.out]; rfl, HB.out⟩
 ·have h0b : (z0 == 0) = false := by simp [h0]
  have h0c : (z0 != 0) = true := by simp [h0]
  have HFin : Hid (zz = z0) := by unfold Hid; rw [HZZ.out, if_neg h0]
  go_wp2
  refine bodyPost_ret (results_tmp rfl _ _ _) rfl ?_
  exact ⟨by rw [HFin.out]; rfl, HB1.out⟩
end Go.Proofs.YtmemiohompdibaaGreatDoor
