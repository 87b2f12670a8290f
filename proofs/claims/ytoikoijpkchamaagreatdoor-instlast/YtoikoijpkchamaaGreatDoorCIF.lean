/-
 The law of parts that meet, over what Make says.
 The law of parts that meet.
-/
import Derived.Test.YtoikoijpkchamaaGreatDoorCID
import Derived.Test.YtoikoijpkchamaaGreatDoorCVM
set_option maxHeartbeats 8000000
set_option maxRecDepth 1000000
namespace Go.Proofs.YtoikoijpkchamaaGreatDoor
open Go.RowKit
set_option linter.unusedVariables false
theorem infoD9 : (Tryz.prog.info? 91).map (fun i => (i.zero, i.size, i.bytes)) = some (some (.agg #[.int .i64 0, .string ⟨#[]⟩]), 2, 24) := by kernel_rfl
theorem vcopyD (o : Option Addr) (n cap : Nat) (xs : List Value) (hl : xs.length = n * 2) (h1 : ∀ u ∈ xs, u.oneCell' = true) (hnil : o = none → cap = 0) (hn : n ≤ 5864062014700) (w : World) (hc : n = 0 ∨ ∃ a, o = some a ∧ ∀ j u, xs[j]? = some u → w.cell? (a.add j) = some u) :
  Calls Tryz.prog 44 #[.slice o n cap] w fun e w' => ∃ (o' : Option Addr) (cap' : Nat), e = .returned (.slice o' n cap') ∧ w'.ownsRow w.heap.size 91 2 (.slice o' n cap') n xs ∧ Below w.heap.size w w' := by
 obtain ⟨i0, hi, hz0, hz1, hz2⟩ := info_parts infoD9
 cases o with
 | none =>
  have h0 : n = 0 := by
   rcases hc with h | ⟨a, h, _⟩
   ·exact h
   ·cases h
  have hc0 := hnil rfl
  subst h0 hc0
  have hx : xs = [] := List.length_eq_zero_iff.1 (by omega)
  subst hx
  clear hc hl hnil h1
  go_enter Tryz.func44, Tryz.ntmps44
  go_wp2_with (at_builtin; refine wpList_append_own_none rfl _ _ 28 rfl w.heap.size 91 i0 2 Tryz.underlying28 hi _ 0 [] rfl (World.ownsRow_nil _ _ _ _) rfl ?_)
  go_ret
  exact ⟨none, 0, rfl, World.ownsRow_nil _ _ _ _, Below.refl _ _⟩
 | some a =>
  have HL : Hid (xs.length = n * 2) := hl
  have HO1 : Hid (∀ u ∈ xs, u.oneCell' = true) := h1
  have HC : Hid (∀ j u, xs[j]? = some u → w.cell? (a.add j) = some u) := by
   intro j u hu
   rcases hc with h | ⟨a', h, hc⟩
   ·have := (List.getElem?_eq_some_iff.1 hu).1
    omega
   ·cases h
    exact hc j u hu
  clear hc hl hnil h1
  go_enter Tryz.func44, Tryz.ntmps44
  go_wp2_with (at_builtin; refine wpList_append_own _ rfl _ _ 28 rfl w.heap.size 91 i0 (.agg #[.int .i64 0, .string ⟨#[]⟩]) 2 24 Tryz.underlying28 hi hz0 hz1 hz2 rfl (by decide) _ 0 [] rfl (World.ownsRow_nil _ _ _ _) a n cap xs rfl ?c0 ?c1 ?c2 ?c3 ?c4 ?c5 ?_)
  case c0 => exact HL.out
  case c1 => exact HC.out
  case c2 => exact HO1.out
  case c3 => unfold maxLen; omega
  case c4 => omega
  case c5 => exact Nat.le_refl _
  ·intro v' w1 hown hgrow _
   have hb : Below w.heap.size w w1 := (Below.refl _ _).grown hgrow (Nat.le_refl _) (fun j hj => by cases hj)
   have HB : Hid (type_of% hb) := hb
   obtain ⟨o', c', rfl⟩ := own_slice hown
   have HO : Hid (type_of% hown) := hown
   clear hown hgrow hb
   go_wp2
   go_ret
   exact ⟨_, _, rfl, HO.out, HB.out⟩
theorem own_baseD {w : World} {B : Nat} {t : TypeId} {k : Nat} {v : Value} {n : Nat} {xs : List Value} (h : w.ownsRow B t k v n xs) {i : Nat} (e : v.ownBlock = some i) : B ≤ i := by
 rcases h.2 with ⟨h1, _⟩ | ⟨g, c, cur, h1, hb, _⟩
 ·rw [h1] at e; cases e
 ·rw [h1] at e
  simp only [Value.ownBlock, Option.some.injEq] at e
  omega
theorem last_core (oT oI oF oG oE oL oD : Option Addr) (nT kT nI kI nF kF nG kG nE kE nL kL nD kD : Nat) (t p q s : Int) (at0 : Int) (b : ByteArray) (xs : List Value) (E : Int) (X Y : ByteArray) (tn gn a : Nat) (w : World) (hn : nD ≤ 5864062014700)
  (HCP : Hid (∀ W, Below w.heap.size w W → Calls Tryz.prog 44 #[.slice oD nD kD] W fun e w' => ∃ (o' : Option Addr) (cap' : Nat), e = .returned (.slice o' nD cap') ∧ w'.ownsRow W.heap.size 91 2 (.slice o' nD cap') nD xs ∧ Below W.heap.size W w'))
  (HM2 : Hid (∀ B W g c, Below w.heap.size w W → W.ownsRow B 91 2 (.slice (some ⟨g, 0, none⟩) (nD + 1) c) (nD + 1) (xs ++ [.int .i64 at0, .string b]) → Calls Tryz.prog 38 #[.agg #[.slice oT nT kT, .slice oI nI kI, .slice oF nF kF, .int .i64 t, .int .i64 p, .int .i64 q, .slice oG nG kG, .slice oE nE kE, .int .i64 s, .slice oL nL kL, .slice (some ⟨g, 0, none⟩) (nD + 1) c]] W fun r w' => Below W.heap.size W w' ∧ (E = 0 → ∃ g1 g2 : Nat, r = .returned (.tuple #[.agg #[.string X, .slice (some ⟨g1, 0, none⟩) tn tn, .slice (some ⟨g2, 0, none⟩) gn gn], .int .i64 0])) ∧ (E ≠ 0 → r = .returned (.tuple #[.agg #[.string ByteArray.empty, .slice none 0 0, .slice none 0 0], .int .i64 E]))))
  (HM1 : Hid (E = 0 → ∀ B W g c, Below w.heap.size w W → W.ownsRow B 91 2 (.slice (some ⟨g, 0, none⟩) (nD + 1) c) (nD + 1) (xs ++ [.int .i64 at0, .string b]) → Calls Tryz.prog 38 #[.agg #[.slice oT nT kT, .slice oI nI kI, .slice oF nF kF, .int .i64 t, .int .i64 p, .int .i64 q, .slice oG nG kG, .slice oE nE kE, .int .i64 s, .slice oL nL kL, .slice (some ⟨g, 0, none⟩) nD c]] W fun r w' => Below W.heap.size W w' ∧ ∃ g1 g2 : Nat, r = .returned (.tuple #[.agg #[.string Y, .slice (some ⟨g1, 0, none⟩) tn tn, .slice (some ⟨g2, 0, none⟩) gn gn], .int .i64 0])))
  (HSI : Hid (∀ W, Calls Tryz.prog 40 #[.agg #[.string ByteArray.empty, .slice none 0 0, .slice none 0 0], .agg #[.string ByteArray.empty, .slice none 0 0, .slice none 0 0]] W fun r w' => r = .returned (.bool true) ∧ Below W.heap.size W w'))
  (HF : Hid (E = 0 → at0 = (a : Int) ∧ a + b.size ≤ X.size ∧ X.size = Y.size ∧ X.size ≤ 2048 ∧ X.extract a (a + b.size) = b ∧ X.extract 0 a = Y.extract 0 a ∧ X.extract (a + b.size) X.size = Y.extract (a + b.size) Y.size)) :
  Calls Tryz.prog 14 #[.agg #[.slice oT nT kT, .slice oI nI kI, .slice oF nF kF, .int .i64 t, .int .i64 p, .int .i64 q, .slice oG nG kG, .slice oE nE kE, .int .i64 s, .slice oL nL kL, .slice oD nD kD], .int .i64 at0, .string b] w fun r w' => r = .returned (.bool true) ∧ Below w.heap.size w w' := by
 obtain ⟨i0, hi, hz0, hz1, hz2⟩ := info_parts infoD9
 have hb1 : Below w.heap.size w (w.alloc (.cells #[.slice oT nT kT, .slice oI nI kI, .slice oF nF kF, .int .i64 t, .int .i64 p, .int .i64 q, .slice oG nG kG, .slice oE nE kE, .int .i64 s, .slice oL nL kL, .slice oD nD kD] 30)) := (Below.refl _ _).alloc (Nat.le_refl _) _
 have HB1 : Hid (type_of% hb1) := hb1
 have HBL : Hid ((w.alloc (.cells #[.slice oT nT kT, .slice oI nI kI, .slice oF nF kF, .int .i64 t, .int .i64 p, .int .i64 q, .slice oG nG kG, .slice oE nE kE, .int .i64 s, .slice oL nL kL, .slice oD nD kD] 30)).heap[w.heap.size]? = some (.cells #[.slice oT nT kT, .slice oI nI kI, .slice oF nF kF, .int .i64 t, .int .i64 p, .int .i64 q, .slice oG nG kG, .slice oE nE kE, .int .i64 s, .slice oL nL kL, .slice oD nD kD] 30 (0, 0))) := new_block w (.cells #[.slice oT nT kT, .slice oI nI kI, .slice oF nF kF, .int .i64 t, .int .i64 p, .int .i64 q, .slice oG nG kG, .slice oE nE kE, .int .i64 s, .slice oL nL kL, .slice oD nD kD] 30)
 have f10 := cell_at HBL.out 10 rfl
 have HN : Hid (nD ≤ 5864062014700) := hn
 have HSZ : Hid ((w.alloc (.cells #[.slice oT nT kT, .slice oI nI kI, .slice oF nF kF, .int .i64 t, .int .i64 p, .int .i64 q, .slice oG nG kG, .slice oE nE kE, .int .i64 s, .slice oL nL kL, .slice oD nD kD] 30)).heap.size = w.heap.size + 1) := by unfold Hid; simp
 clear hb1
 go_enter Tryz.func14, Tryz.ntmps14
 go_wp2_with fail
 refine (HCP.out _ HB1.out).mono ?_
 rintro r w1 ⟨o1, c1, rfl, how, b1⟩
 have HO1 : Hid (w1.ownsRow (w.heap.size + 1) 91 2 (.slice o1 nD c1) nD xs) := by unfold Hid; rw [← HSZ.out]; exact how
 have HW1 : Hid (Below (w.alloc (.cells #[.slice oT nT kT, .slice oI nI kI, .slice oF nF kF, .int .i64 t, .int .i64 p, .int .i64 q, .slice oG nG kG, .slice oE nE kE, .int .i64 s, .slice oL nL kL, .slice oD nD kD] 30)).heap.size (w.alloc (.cells #[.slice oT nT kT, .slice oI nI kI, .slice oF nF kF, .int .i64 t, .int .i64 p, .int .i64 q, .slice oG nG kG, .slice oE nE kE, .int .i64 s, .slice oL nL kL, .slice oD nD kD] 30)) w1) := b1
 have HS1 : Hid (w.heap.size + 1 ≤ w1.heap.size) := by unfold Hid; rw [← HSZ.out]; exact b1.size
 clear how b1 HCP f10
 go_wp2_with (at_builtin; refine wpList_append_lies _ rfl _ _ 28 rfl _ 91 i0 (.agg #[.int .i64 0, .string ⟨#[]⟩]) 2 24 Tryz.underlying28 hi hz0 hz1 hz2 rfl (by decide) _ nD _ rfl (HO1.out.alloc _) ⟨_, 0, none⟩ 1 1 [.int .i64 at0, .string b] rfl rfl (World.news_of_block (cs := #[.int .i64 at0, .string b]) (t := 91) (fr := (0, 0)) (heap_alloc_new _ _)) ?one ?a2 ?a3 ?a4 ?base _ rfl ?_)
 case one => simp [Value.oneCell']
 case a2 => decide
 case a3 => (unfold maxLen; omega)
 case a4 => omega
 case base => (have := HS1.out; simp; omega)
 intro g c w2 how hgrow hat hlt
 have hw2 : Below (w.heap.size + 1) w1 w2 := ((Below.refl _ _).alloc (by have := HS1.out; omega) _).grown hgrow (by have := HS1.out; simp; omega) (fun i hi => own_baseD HO1.out hi)
 have HG : Hid (w.heap.size + 1 ≤ g) := own_baseD how (i := g) rfl
 have HBK : Hid (w2.heap[w.heap.size]? = some (.cells #[.slice oT nT kT, .slice oI nI kI, .slice oF nF kF, .int .i64 t, .int .i64 p, .int .i64 q, .slice oG nG kG, .slice oE nE kE, .int .i64 s, .slice oL nL kL, .slice oD nD kD] 30 (0, 0))) := (hw2.block w.heap.size (by omega)).trans ((HW1.out.block w.heap.size (by simp)).trans HBL.out)
 have hfz : w2.frozen? ⟨w.heap.size, 10, none⟩ = false := by have := HBK.out; simp [World.frozen?, this]
 have hc10 := cell_at HBK.out 10 rfl
 obtain ⟨w3, hw3⟩ : ∃ w3, w3 = w2.setCell ⟨w.heap.size, 10, none⟩ (.slice (some ⟨g, 0, none⟩) (nD + 1) c) := ⟨_, rfl⟩
 have hch : Chg w.heap.size w2 w3 := by rw [hw3]; exact Chg.set _ _ _ _
 have HBM : Hid (w3.heap[w.heap.size]? = some (.cells #[.slice oT nT kT, .slice oI nI kI, .slice oF nF kF, .int .i64 t, .int .i64 p, .int .i64 q, .slice oG nG kG, .slice oE nE kE, .int .i64 s, .slice oL nL kL, .slice (some ⟨g, 0, none⟩) (nD + 1) c] 30 (0, 0))) := by
  unfold Hid
  rw [hw3]
  have := HBK.out
  simp [World.setCell, Array.getElem?_modify, this]
 have HO3 : Hid (w3.ownsRow (w.heap.size + 1) 91 2 (.slice (some ⟨g, 0, none⟩) (nD + 1) c) (nD + 1) (xs ++ [.int .i64 at0, .string b])) := own_chg how hch (by have := HG.out; simp only [Value.ownBlock, ne_eq, Option.some.injEq]; omega)
 have HV3 : Hid (Below w.heap.size w w3) := by
  have h1 := HB1.out.trans (HW1.out.mono HB1.out.size)
  have h2 := h1.trans (hw2.mono (Nat.le_succ _))
  exact h2.trans (hch.below (Nat.le_refl _) h2.size)
 have HCM : Hid (∀ W, Below w3.heap.size w3 W → W.cell? ⟨w.heap.size, 0, none⟩ = some (.slice oT nT kT) ∧ W.cell? ⟨w.heap.size, 1, none⟩ = some (.slice oI nI kI) ∧ W.cell? ⟨w.heap.size, 2, none⟩ = some (.slice oF nF kF) ∧ W.cell? ⟨w.heap.size, 3, none⟩ = some (.int .i64 t) ∧ W.cell? ⟨w.heap.size, 4, none⟩ = some (.int .i64 p) ∧ W.cell? ⟨w.heap.size, 5, none⟩ = some (.int .i64 q) ∧ W.cell? ⟨w.heap.size, 6, none⟩ = some (.slice oG nG kG) ∧ W.cell? ⟨w.heap.size, 7, none⟩ = some (.slice oE nE kE) ∧ W.cell? ⟨w.heap.size, 8, none⟩ = some (.int .i64 s) ∧ W.cell? ⟨w.heap.size, 9, none⟩ = some (.slice oL nL kL) ∧ W.cell? ⟨w.heap.size, 10, none⟩ = some (.slice (some ⟨g, 0, none⟩) (nD + 1) c)) := fun W bW => by
  have q := (bW.block w.heap.size (some_lt HBM.out)).trans HBM.out
  exact ⟨cell_at q 0 rfl, cell_at q 1 rfl, cell_at q 2 rfl, cell_at q 3 rfl, cell_at q 4 rfl, cell_at q 5 rfl, cell_at q 6 rfl, cell_at q 7 rfl, cell_at q 8 rfl, cell_at q 9 rfl, cell_at q 10 rfl⟩
 clear how hgrow hat hlt hw2 hch HBL HO1 HW1 HS1 hi hz0 hz1 hz2
 obtain ⟨f0, f1, f2, f3, f4, f5, f6, f7, f8, f9, f10⟩ := HCM.out _ (Below.refl _ _)
 rw [hw3] at f0 f1 f2 f3 f4 f5 f6 f7 f8 f9 f10
 go_wp2_with fail
 rw [← hw3]
 clear hw3 hfz hc10 HBK
 refine (HM2.out _ _ _ _ HV3.out HO3.out).mono ?_
 rintro r w4 ⟨b4, hy, hno⟩
 have HW4 : Hid (Below w3.heap.size w3 w4) := b4
 have HV4 : Hid (Below w.heap.size w w4) := HV3.out.trans (b4.mono HV3.out.size)
 clear b4 f0 f1 f2 f3 f4 f5 f6 f7 f8 f9 f10 HM2
 by_cases hE : E = 0
 ·obtain ⟨g1, g2, rfl⟩ := hy hE
  have HM := HM1.out hE
  have HM1' : Hid (type_of% HM) := HM
  obtain ⟨ha, h1, h2, h3, h4, h5, h6⟩ := HF.out hE
  subst ha
  obtain ⟨e, he⟩ : ∃ e : Nat, e = a + b.size := ⟨_, rfl⟩
  rw [← he] at h1 h4 h6
  have HFX : Hid (X.size = Y.size ∧ X.extract 0 a = Y.extract 0 a ∧ X.extract e X.size = Y.extract e Y.size ∧ e ≤ X.size ∧ a ≤ e) := ⟨h2, h5, h6, h1, by omega⟩
  have HE : Hid (e = a + b.size) := he
  have HX8 : Hid (X.size ≤ 2048) := h3
  have hs0 : ¬ ((X.size : Int) - (b.size : Int) < (a : Int)) := by omega
  have ha0 : ¬ ((a : Int) < 0) := by omega
  have hs1 : (a : Int) ≤ (X.size : Int) - (b.size : Int) := by omega
  have hcj : (0 : Int) ≤ (a : Int) ∧ (a : Int) ≤ (X.size : Int) - (b.size : Int) := by omega
  have ha1 : (0 : Int) ≤ (a : Int) := by omega
  have hae : (a : Int) ≤ (e : Int) := by omega
  have hex : (e : Int) ≤ (X.size : Int) := by omega
  have hae' : a ≤ e := by omega
  have hex' : e ≤ X.size := h1
  have hww1 : ∀ z : Int, z = (X.size : Int) - (b.size : Int) → wrap64 z = (X.size : Int) - (b.size : Int) := fun z hz => by rw [hz]; unfold wrap64; omega
  have hww2 : ∀ z : Int, z = (a : Int) + (b.size : Int) → wrap64 z = (e : Int) := fun z hz => by rw [hz, he]; unfold wrap64; omega
  have hww3 : ∀ z : Int, z = ((nD + 1 : Nat) : Int) - 1 → wrap64 z = (nD : Int) := fun z hz => by have := HN.out; rw [hz]; unfold wrap64; omega
  have HX : Hid (Below w4.heap.size w4 (w4.alloc (.cells #[.string X, .slice (some ⟨g1, 0, none⟩) tn tn, .slice (some ⟨g2, 0, none⟩) gn gn] 80))) := (Below.refl _ _).alloc (Nat.le_refl _) _
  have nb := new_block w4 (.cells #[.string X, .slice (some ⟨g1, 0, none⟩) tn tn, .slice (some ⟨g2, 0, none⟩) gn gn] 80)
  have x0 := cell_at nb 0 rfl
  have HW4X : Hid (Below w3.heap.size w3 (w4.alloc (.cells #[.string X, .slice (some ⟨g1, 0, none⟩) tn tn, .slice (some ⟨g2, 0, none⟩) gn gn] 80))) := HW4.out.trans (HX.out.mono HW4.out.size)
  have f10 := (HCM.out _ HW4X.out).2.2.2.2.2.2.2.2.2.2
  have HBX : Hid ((w4.alloc (.cells #[.string X, .slice (some ⟨g1, 0, none⟩) tn tn, .slice (some ⟨g2, 0, none⟩) gn gn] 80)).heap[w.heap.size]? = some (.cells #[.slice oT nT kT, .slice oI nI kI, .slice oF nF kF, .int .i64 t, .int .i64 p, .int .i64 q, .slice oG nG kG, .slice oE nE kE, .int .i64 s, .slice oL nL kL, .slice (some ⟨g, 0, none⟩) (nD + 1) c] 30 (0, 0))) := (HW4X.out.block w.heap.size (some_lt HBM.out)).trans HBM.out
  have hfz : (w4.alloc (.cells #[.string X, .slice (some ⟨g1, 0, none⟩) tn tn, .slice (some ⟨g2, 0, none⟩) gn gn] 80)).frozen? ⟨w.heap.size, 10, none⟩ = false := by have := HBX.out; simp only [World.frozen?, this]; rfl
  have HB4 : Hid (w4.heap[w.heap.size]? = some (.cells #[.slice oT nT kT, .slice oI nI kI, .slice oF nF kF, .int .i64 t, .int .i64 p, .int .i64 q, .slice oG nG kG, .slice oE nE kE, .int .i64 s, .slice oL nL kL, .slice (some ⟨g, 0, none⟩) (nD + 1) c] 30 (0, 0))) := (HW4.out.block w.heap.size (some_lt HBM.out)).trans HBM.out
  obtain ⟨w5, hw5⟩ : ∃ w5, w5 = (w4.setCell ⟨w.heap.size, 10, none⟩ (.slice (some ⟨g, 0, none⟩) nD c)).alloc (.cells #[.string X, .slice (some ⟨g1, 0, none⟩) tn tn, .slice (some ⟨g2, 0, none⟩) gn gn] 80) := ⟨_, rfl⟩
  have hch : Chg w.heap.size w4 (w4.setCell ⟨w.heap.size, 10, none⟩ (.slice (some ⟨g, 0, none⟩) nD c)) := Chg.set _ _ _ _
  have hss : (w4.setCell ⟨w.heap.size, 10, none⟩ (.slice (some ⟨g, 0, none⟩) nD c)).heap.size = w4.heap.size := by simp [World.setCell]
  have hal : Below (w4.setCell ⟨w.heap.size, 10, none⟩ (.slice (some ⟨g, 0, none⟩) nD c)).heap.size (w4.setCell ⟨w.heap.size, 10, none⟩ (.slice (some ⟨g, 0, none⟩) nD c)) w5 := by rw [hw5]; exact (Below.refl _ _).alloc (Nat.le_refl _) _
  have hlt4 : w.heap.size < w4.heap.size := Nat.lt_of_lt_of_le (some_lt HBM.out) HW4.out.size
  have HB5 : Hid (w5.heap[w.heap.size]? = some (.cells #[.slice oT nT kT, .slice oI nI kI, .slice oF nF kF, .int .i64 t, .int .i64 p, .int .i64 q, .slice oG nG kG, .slice oE nE kE, .int .i64 s, .slice oL nL kL, .slice (some ⟨g, 0, none⟩) nD c] 30 (0, 0))) := by
   unfold Hid
   rw [hal.block w.heap.size (by rw [hss]; exact hlt4)]
   have := HB4.out
   simp [World.setCell, Array.getElem?_modify, this]
  have HX5 : Hid (w5.heap[w4.heap.size]? = some (.cells #[.string X, .slice (some ⟨g1, 0, none⟩) tn tn, .slice (some ⟨g2, 0, none⟩) gn gn] 80 (0, 0))) := by
   unfold Hid
   rw [hw5, ← hss]
   exact new_block _ _
  have HO5 : Hid (w5.ownsRow (w.heap.size + 1) 91 2 (.slice (some ⟨g, 0, none⟩) (nD + 1) c) (nD + 1) (xs ++ [.int .i64 (a : Int), .string b])) := own_below (own_chg (own_below HO3.out HW4.out) hch (by have := HG.out; simp only [Value.ownBlock, ne_eq, Option.some.injEq]; omega)) hal
  have HV5 : Hid (Below w.heap.size w w5) := by
   have h1 := HV4.out.trans (hch.below (Nat.le_refl _) HV4.out.size)
   exact h1.trans (hal.mono h1.size)
  have hcap : nD + 1 ≤ c := by
   rcases HO3.out.2 with ⟨h, _⟩ | ⟨g', c', cur, h, _, _, h3, _⟩
   ·cases h
   ·simp only [Value.slice.injEq] at h
    omega
  have hcapi : (nD : Int) ≤ (c : Int) := by omega
  have hnd0 : (0 : Int) ≤ (nD : Int) := by omega
  obtain ⟨f0, f1, f2, f3, f4, f5, f6, f7, f8, f9, f11⟩ : w5.cell? ⟨w.heap.size, 0, none⟩ = some (.slice oT nT kT) ∧ w5.cell? ⟨w.heap.size, 1, none⟩ = some (.slice oI nI kI) ∧ w5.cell? ⟨w.heap.size, 2, none⟩ = some (.slice oF nF kF) ∧ w5.cell? ⟨w.heap.size, 3, none⟩ = some (.int .i64 t) ∧ w5.cell? ⟨w.heap.size, 4, none⟩ = some (.int .i64 p) ∧ w5.cell? ⟨w.heap.size, 5, none⟩ = some (.int .i64 q) ∧ w5.cell? ⟨w.heap.size, 6, none⟩ = some (.slice oG nG kG) ∧ w5.cell? ⟨w.heap.size, 7, none⟩ = some (.slice oE nE kE) ∧ w5.cell? ⟨w.heap.size, 8, none⟩ = some (.int .i64 s) ∧ w5.cell? ⟨w.heap.size, 9, none⟩ = some (.slice oL nL kL) ∧ w5.cell? ⟨w.heap.size, 10, none⟩ = some (.slice (some ⟨g, 0, none⟩) nD c) := ⟨cell_at HB5.out 0 rfl, cell_at HB5.out 1 rfl, cell_at HB5.out 2 rfl, cell_at HB5.out 3 rfl, cell_at HB5.out 4 rfl, cell_at HB5.out 5 rfl, cell_at HB5.out 6 rfl, cell_at HB5.out 7 rfl, cell_at HB5.out 8 rfl, cell_at HB5.out 9 rfl, cell_at HB5.out 10 rfl⟩
  rw [hw5] at f0 f1 f2 f3 f4 f5 f6 f7 f8 f9 f11
  clear hy hno HM nb hch hal hss h1 h2 h3 h5 h6 he
  go_wp2_with fail
  rw [← hw5]
  refine (HM1'.out _ _ _ _ HV5.out HO5.out).mono ?_
  rintro r w6 ⟨b6, g3, g4, rfl⟩
  have HV6 : Hid (Below w.heap.size w w6) := HV5.out.trans (b6.mono HV5.out.size)
  have HYE : Hid (Below w6.heap.size w6 (w6.alloc (.cells #[.string Y, .slice (some ⟨g3, 0, none⟩) tn tn, .slice (some ⟨g4, 0, none⟩) gn gn] 80))) := (Below.refl _ _).alloc (Nat.le_refl _) _
  have HV7 : Hid (Below w.heap.size w (w6.alloc (.cells #[.string Y, .slice (some ⟨g3, 0, none⟩) tn tn, .slice (some ⟨g4, 0, none⟩) gn gn] 80))) := HV6.out.trans (HYE.out.mono HV6.out.size)
  have nb2 := new_block w6 (.cells #[.string Y, .slice (some ⟨g3, 0, none⟩) tn tn, .slice (some ⟨g4, 0, none⟩) gn gn] 80)
  have y0 := cell_at nb2 0 rfl
  have x7 := cell_at ((HYE.out.block w4.heap.size (Nat.lt_of_lt_of_le (some_lt HX5.out) b6.size)).trans ((b6.block w4.heap.size (some_lt HX5.out)).trans HX5.out)) 0 rfl
  obtain ⟨hz1, hz2, hz3, hz4, hz5⟩ := HFX.out
  have hq1 : ((X.size : Int) == (Y.size : Int)) = true := by rw [hz1]; simp
  have hq2 : ((X.size : Int) != (Y.size : Int)) = false := by rw [hz1]; simp
  have hey : (e : Int) ≤ (Y.size : Int) := by omega
  have hey' : e ≤ Y.size := by omega
  have hax : (a : Int) ≤ (X.size : Int) := by omega
  have hay : (a : Int) ≤ (Y.size : Int) := by omega
  have hax' : a ≤ X.size := by omega
  have hay' : a ≤ Y.size := by omega
  have he0 : (0 : Int) ≤ (e : Int) := by omega
  have hwq : ∀ z : Int, z = (a : Int) + (b.size : Int) → IntKind.i64.wrap z = (e : Int) := fun z hz => by have := HE.out; have := HX8.out; rw [hz, IntKind.wrap_i64]; omega
  clear b6 nb2 hw5 hfz f0 f1 f2 f3 f4 f5 f6 f7 f8 f9 f11 f10 x0 hz1 hz4 hz5 HM1'
  go_wp2_with fail
  go_quiet (fail)
  go_wp2
  go_ret
  exact ⟨rfl, below_drewN HV7.out _⟩
 ·have hr := hno hE
  subst hr
  have hb0 : (E == 0) = false := by rw [beq_eq_false_iff_ne]; exact hE
  have hn0 : (E != 0) = true := by rw [bne, hb0]; rfl
  have HX : Hid (Below w4.heap.size w4 (w4.alloc (.cells #[.string ByteArray.empty, .slice none 0 0, .slice none 0 0] 80))) := (Below.refl _ _).alloc (Nat.le_refl _) _
  have q := new_block w4 (.cells #[.string ByteArray.empty, .slice none 0 0, .slice none 0 0] 80)
  have x0 := cell_at q 0 rfl
  have x1 := cell_at q 1 rfl
  have x2 := cell_at q 2 rfl
  clear q hy hno
  go_wp2_with (go_at_call 40; refine (HSI.out _).mono ?_; rintro r w5 ⟨rfl, b5⟩; have HV5 : Hid (Below w.heap.size w w5) := (HV4.out.trans (HX.out.mono HV4.out.size)).trans (b5.mono (by have h1 := HV4.out.size; simp; omega)); clear b5)
  go_ret
  exact ⟨rfl, HV5.out⟩
end Go.Proofs.YtoikoijpkchamaaGreatDoor
namespace Go.Proofs.YtoikoijpkchamaaGreatDoor
open Go.RowKit
set_option linter.unusedVariables false
theorem fstE_of0 {a b : Int} (h : a = 0) (k : b = 0) : fstE a b = 0 := by rw [h, k]; rfl
theorem frst_of0 {α : Type} {f : α → Int} : ∀ {L : List α}, (∀ x ∈ L, f x = 0) → frst f L = 0
 | [], _ => rfl
 | x :: L, h => fstE_of0 (h x (by simp)) (frst_of0 fun y hy => h y (by simp [hy]))
theorem chkL_less {α : Type} {n : Int} {f : α → Int} {L : List α} {d : α} (h : chkL n f (L ++ [d]) = 0) : chkL n f L = 0 := by
 obtain ⟨h1, h2⟩ := chkL_eq0 h
 refine fstE_of0 ?_ (frst_of0 fun x hx => h2 x (by simp [hx]))
 rw [List.length_append] at h1
 rw [decide_eq_true (by simp at h1; omega)]
 rfl
theorem flat_lenD {α : Type} (cs : α → List Value) (k : Nat) (h : ∀ a, (cs a).length = k) (L : List α) : (L.flatMap cs).length = L.length * k := by
 induction L with
 | nil => simp
 | cons x L ih => rw [List.flatMap_cons, List.length_append, ih, h, List.length_cons, Nat.succ_mul]; omega
theorem rows_allD {α : Type} {w : World} {k : Nat} (hk : 0 < k) {cs : α → List Value} (hcs : ∀ a, (cs a).length = k) {ok : World → α → Prop} {o : Option Addr} {cap : Nat} {L : List α} (h : RowsOf w k cs ok o cap L) : L.length = 0 ∨ ∃ a : Addr, o = some a ∧ ∀ j u, (L.flatMap cs)[j]? = some u → w.cell? (a.add j) = some u := by
 rcases h.at' with h0 | ⟨b, f, h1, h2, h3⟩
 ·exact Or.inl (by rw [h0]; rfl)
 ·have hadd : ∀ n : Nat, (⟨b, f, none⟩ : Addr).add n = ⟨b, f + n, none⟩ := fun n => by unfold Addr.add; split <;> simp_all
  refine Or.inr ⟨_, h1, fun j u hu => ?_⟩
  have hlt : j < L.length * k := by
   rw [← flat_lenD cs k hcs]
   exact (List.getElem?_eq_some_iff.1 hu).1
  have hi : j / k < L.length := Nat.div_lt_of_lt_mul (by rw [Nat.mul_comm]; exact hlt)
  have hr : j % k < k := Nat.mod_lt _ hk
  have he : j = j / k * k + j % k := by rw [Nat.mul_comm]; exact (Nat.div_add_mod j k).symm
  rw [he, flat_at cs k hcs L (j / k) (j % k) hi hr] at hu
  have := h3 (j / k) hi (j % k) hr
  rw [hadd, he, ← Nat.add_assoc, this]
  exact hu
theorem str_ext (L : List Int) (a b : Nat) : (strOfNums L).extract a b = strOfNums ((L.drop a).take (b - a)) := by
 apply ByteArray.ext
 apply Array.toList_inj.1
 rw [Lib.extract_data, strOfNums_data, strOfNums_data, List.map_take, List.map_drop]
theorem puts_snoc (d : DatD) : ∀ (L : List DatD) (b : List Int), (putsV (L ++ [d]) b).1 = 0 → (putsV L b).1 = 0 ∧ hasB (putsV L b).2.length (plc d.a) d.s.size = true ∧ (putsV (L ++ [d]) b).2 = splice (putsV L b).2 (plc d.a).toNat (nums d.s)
 | [], b, h => by
  simp only [List.nil_append] at h ⊢
  unfold putsV at h ⊢
  split at h
  ·rename_i hh
   rw [if_pos hh]
   exact ⟨rfl, hh, rfl⟩
  ·exact absurd h (by decide)
 | e :: L, b, h => by
  simp only [List.cons_append] at h ⊢
  unfold putsV at h ⊢
  split at h
  ·rename_i hh
   rw [if_pos hh, if_pos hh]
   exact puts_snoc d L _ h
  ·exact absurd h (by decide)
def datM (m : ModD) (o : Option Addr) (c : Nat) (D : List DatD) : ModD := { m with oD := o, cD := c, data := D }
theorem dat_like (m : ModD) (o : Option Addr) (c : Nat) (D : List DatD) : Like m (datM m o c D) := ⟨rfl, rfl, rfl, fun _ => rfl, rfl, rfl, rfl⟩
theorem dat_first (m : ModD) (o : Option Addr) (c : Nat) (D : List DatD) (k : Nat) : firstV (datM m o c D) k = firstV m k := (dat_like m o c D).run _ _ _ _
theorem dat_tabl (m : ModD) (o : Option Addr) (c : Nat) (D : List DatD) : tablV (datM m o c D) = tablV m := rfl
theorem dat_head (m : ModD) (o o' : Option Addr) (c c' : Nat) (D : List DatD) : headErr (datM m o c D) = headErr (datM m o' c' D) := rfl
theorem dat_modE (m : ModD) (o : Option Addr) (c : Nat) (D : List DatD) : modE (datM m o c D) = fstE (headErr (datM m none 0 D)) (frst (fun k => (firstV m k).2) (List.range' 0 m.funcs.length)) := by
 unfold modE
 rw [dat_head m o none c 0 D]
 simp only [dat_first]
 rfl
theorem dat_less (m : ModD) (D : List DatD) (d : DatD) (h : headErr (datM m none 0 (D ++ [d])) = 0) : headErr (datM m none 0 D) = 0 := by
 have hc := (head_zero h).1
 have hc2 : mChk (datM m none 0 D) = 0 := by
  unfold mChk at hc ⊢
  obtain ⟨h1, hc⟩ := fstE_eq0 hc
  obtain ⟨h2, hc⟩ := fstE_eq0 hc
  obtain ⟨h3, hc⟩ := fstE_eq0 hc
  obtain ⟨h4, hc⟩ := fstE_eq0 hc
  obtain ⟨h5, hc⟩ := fstE_eq0 hc
  obtain ⟨h6, hc⟩ := fstE_eq0 hc
  obtain ⟨h7, hc⟩ := fstE_eq0 hc
  obtain ⟨h8, hc⟩ := fstE_eq0 hc
  obtain ⟨h9, hc⟩ := fstE_eq0 hc
  obtain ⟨h10, hc⟩ := fstE_eq0 hc
  obtain ⟨h11, hc⟩ := fstE_eq0 hc
  have h12 : chkL 4 chkDat D = 0 := chkL_less hc
  exact fstE_of0 h1 (fstE_of0 h2 (fstE_of0 h3 (fstE_of0 h4 (fstE_of0 h5 (fstE_of0 h6 (fstE_of0 h7 (fstE_of0 h8 (fstE_of0 h9 (fstE_of0 h10 (fstE_of0 h11 h12))))))))))
 unfold headErr at h ⊢
 rw [if_pos hc] at h
 rw [if_pos hc2]
 split at h
 ·rename_i hh
  refine (if_pos (c := (((datM m none 0 D).imports.all fun d => decide (d.n < ((datM m none 0 D).types.length : Int))) && (datM m none 0 D).funcs.all fun d => decide (d.t < ((datM m none 0 D).types.length : Int))) = true) hh).trans ?_
  obtain ⟨g1, g2⟩ := fstE_eq0 h
  obtain ⟨g3, g4⟩ := fstE_eq0 g2
  refine fstE_of0 g1 (fstE_of0 g3 ?_)
  have g5 := okE_eq0 (by decide) g4
  rw [Bool.and_eq_true] at g5
  have g6 : (decide (0 < (datM m none 0 D).most) || (datM m none 0 D).data.length == 0) = true := by
   rw [Bool.or_eq_true]
   refine Or.inl ?_
   have g7 := g5.2
   rw [Bool.or_eq_true] at g7
   rcases g7 with g7 | g7
   ·exact g7
   ·simp [datM] at g7
  have g8 : ((datM m none 0 D).elems.all (eleOk (datM m none 0 D).table (((datM m none 0 D).imports.length : Int) + ((datM m none 0 D).funcs.length : Int)))) = true := g5.1
  rw [g8, g6]
  rfl
 ·exact absurd h (by decide)
theorem make_last (m : ModD) (d : DatD) (o o' : Option Addr) (c c' : Nat) (h : makeE (datM m o c (m.data ++ [d])) = 0) :
  makeE (datM m o' c' m.data) = 0 ∧ (∃ a : Nat, d.a = (a : Int) ∧ a + d.s.size ≤ (bytsV m).2.length ∧ (bytsV (datM m o c (m.data ++ [d]))).2 = splice (bytsV m).2 a (nums d.s)) ∧ (bytsV m).2.length ≤ 2048 := by
 unfold makeE at h
 split at h
 ·rename_i hz
  split at h
  ·rename_i ht
   rw [dat_modE] at hz
   obtain ⟨h1, h2⟩ := fstE_eq0 hz
   have hc := (head_zero h1).1
   obtain ⟨_, ⟨p0, p1, p2⟩, _, _, hd⟩ := mChk_size hc
   have p0' : 0 ≤ m.pages := p0
   have p1' : m.pages ≤ m.most := p1
   have p2' : m.most ≤ 8 := p2
   obtain ⟨q1, q2, q3⟩ := puts_snoc d m.data (List.replicate (256 * m.pages.toNat) 0) h
   have hl : (bytsV m).2.length = 256 * m.pages.toNat := by
    unfold bytsV
    rw [puts_len _ _ q1, List.length_replicate]
   have hdd := hd d (by show d ∈ m.data ++ [d]; simp)
   have hp := plc_range d.a
   have hf : plc d.a + d.s.size ≤ ((bytsV m).2.length : Int) := by
    unfold hasB at q2
    have := of_decide_eq_true q2
    unfold bytsV
    omega
   have ha0 : 0 ≤ d.a := by
    unfold plc at hf hp
    omega
   have hpa : plc d.a = d.a := by
    unfold plc at hf hp ⊢
    omega
   refine ⟨?_, ⟨d.a.toNat, by omega, by omega, ?_⟩, by omega⟩
   ·unfold makeE
    rw [dat_modE, dat_tabl]
    rw [if_pos (fstE_of0 (dat_less m m.data d h1) h2)]
    rw [dat_tabl] at ht
    rw [if_pos ht]
    exact q1
   ·rw [hpa] at q3
    exact q3
  ·rename_i ht
   exact absurd h ht
 ·rename_i hz
  exact absurd h hz
theorem dat_makeE (m : ModD) (o o' : Option Addr) (c c' : Nat) (D : List DatD) : makeE (datM m o c D) = makeE (datM m o' c' D) := by
 unfold makeE
 rw [dat_modE, dat_modE]
 rfl
theorem own_rowsD {w : World} {B : Nat} {ty : TypeId} {g cap : Nat} {L : List DatD} (h : w.ownsRow B ty 2 (.slice (some ⟨g, 0, none⟩) L.length cap) L.length (L.flatMap DatD.cells)) (hok : ∀ d ∈ L, DatD.ok w d) : RowsOf w 2 DatD.cells DatD.ok (some ⟨g, 0, none⟩) cap L := by
 obtain ⟨g', c', cur, h1, h3, h4, hgw⟩ : ∃ g' c' cur, Value.slice (some ⟨g, 0, none⟩) L.length cap = .slice (some ⟨g', 0, none⟩) L.length c' ∧ L.length ≤ c' ∧ c' ≤ maxLen ∧ w.heap[g']? = some (.cells cur ty (0, 0)) := by
  rcases h.2 with ⟨h1, _⟩ | ⟨g', c', cur, h1, _, h2, h3, h4, _⟩
  ·cases h1
  ·exact ⟨g', c', cur, h1, h3, h4, h2⟩
 simp only [Value.slice.injEq, Option.some.injEq, Addr.mk.injEq] at h1
 obtain ⟨⟨rfl, _⟩, _, rfl⟩ := h1
 refine ⟨h3, h4, (fun e => by cases e), hok, Or.inr ⟨g, 0, rfl, some_lt hgw, fun i hi r hr => ?_⟩⟩
 rw [Nat.zero_add]
 have hlt : i * 2 + r < L.length * 2 := by omega
 exact (h.cellAt (i * 2 + r) hlt).trans (flat_at DatD.cells 2 (fun _ => rfl) L i r hi hr)
theorem rows_init {w : World} {o : Option Addr} {cap : Nat} {L : List DatD} {d : DatD} (h : RowsOf w 2 DatD.cells DatD.ok o cap (L ++ [d])) : RowsOf w 2 DatD.cells DatD.ok o cap L := by
 refine ⟨Nat.le_trans (by simp) h.le, h.most, h.nil, fun x hx => h.all x (by simp [hx]), ?_⟩
 rcases h.at' with h0 | ⟨b, f, h1, h2, h3⟩
 ·exact absurd h0 (by simp)
 ·refine Or.inr ⟨b, f, h1, h2, fun i hi r hr => ?_⟩
  have := h3 i (by simp; omega) r hr
  rw [List.getElem_append_left hi] at this
  exact this
theorem dat_ok {m : ModD} {W : World} {o : Option Addr} {c : Nat} {D : List DatD} (hm : m.ok W) (h : RowsOf W 2 DatD.cells DatD.ok o c D) : (datM m o c D).ok W := ⟨hm.types, hm.imports, hm.funcs, hm.table, hm.pages, hm.most, hm.globals, hm.exports, hm.start, hm.elems, h⟩
theorem instLast_walk (m : ModD) (at0 : Int) (hi : inI at0) (b : ByteArray) (hb0 : b.size ≤ 140737488355328) (w : World) (hA : Amb w) (hm : m.ok w) (hn : m.data.length ≤ 5864062014700) :
  Calls Tryz.prog 14 #[.agg #[.slice m.oT m.types.length m.cT, .slice m.oI m.imports.length m.cI, .slice m.oF m.funcs.length m.cF, .int .i64 m.table, .int .i64 m.pages, .int .i64 m.most, .slice m.oG m.globals.length m.cG, .slice m.oE m.exports.length m.cE, .int .i64 m.start, .slice m.oL m.elems.length m.cL, .slice m.oD m.data.length m.cD], .int .i64 at0, .string b] w fun r w' => r = .returned (.bool true) ∧ Below w.heap.size w w' := by
 have hb : b.size ≤ maxLen := by unfold maxLen; omega
 have hg : 2 < w.heap.size := by have := hA.2.2; omega
 have e1 : (m.data ++ [(⟨at0, b⟩ : DatD)]).length = m.data.length + 1 := by simp
 have e2 : m.data.flatMap DatD.cells ++ [.int .i64 at0, .string b] = (m.data ++ [(⟨at0, b⟩ : DatD)]).flatMap DatD.cells := by simp [DatD.cells]
 have hrow : ∀ B W g c, Below w.heap.size w W → W.ownsRow B 91 2 (.slice (some ⟨g, 0, none⟩) (m.data.length + 1) c) (m.data.length + 1) (m.data.flatMap DatD.cells ++ [.int .i64 at0, .string b]) → RowsOf W 2 DatD.cells DatD.ok (some ⟨g, 0, none⟩) c (m.data ++ [(⟨at0, b⟩ : DatD)]) := fun B W g c bW ho => by
  rw [← e1, e2] at ho
  refine own_rowsD ho fun d hd => ?_
  rcases List.mem_append.1 hd with q | q
  ·exact hm.data.all d q
  ·obtain rfl : d = ⟨at0, b⟩ := by simpa using q
   exact ⟨hi, hb⟩
 refine last_core m.oT m.oI m.oF m.oG m.oE m.oL m.oD m.types.length m.cT m.imports.length m.cI m.funcs.length m.cF m.globals.length m.cG m.exports.length m.cE m.elems.length m.cL m.data.length m.cD m.table m.pages m.most m.start at0 b (m.data.flatMap DatD.cells) (makeE (datM m none 0 (m.data ++ [⟨at0, b⟩]))) (strOfNums (bytsV (datM m none 0 (m.data ++ [⟨at0, b⟩]))).2) (strOfNums (bytsV m).2) m.table.toNat m.globals.length at0.toNat w hn ?_ ?_ ?_ ?_ ?_
 ·intro W bW
  refine vcopyD m.oD m.data.length m.cD (m.data.flatMap DatD.cells) (flat_lenD DatD.cells 2 (fun _ => rfl) m.data) (fun u hu => ?_) hm.data.nil hn W ?_
  ·obtain ⟨d, _, hd⟩ := List.mem_flatMap.1 hu
   simp only [DatD.cells, List.mem_cons, List.not_mem_nil, or_false] at hd
   rcases hd with rfl | rfl <;> rfl
  ·exact rows_allD (k := 2) (cs := DatD.cells) (by decide) (fun _ => rfl) (hm.below bW).data
 ·intro B W g c bW ho
  have hk := hrow B W g c bW ho
  have := imake (datM m (some ⟨g, 0, none⟩) c (m.data ++ [⟨at0, b⟩])) W (hA.to (bW.mono (by have := hA.2.2; omega))) (dat_ok (hm.below bW) hk) (Nat.lt_of_lt_of_le hg bW.size)
  rw [← e1]
  refine this.mono fun r w' h => ⟨h.1, fun h0 => ?_, fun h0 => ?_⟩
  ·rw [dat_makeE m none (some ⟨g, 0, none⟩) 0 c] at h0
   obtain ⟨g1, g2, hr, _⟩ := h.2.1 h0
   exact ⟨g1, g2, hr⟩
  ·rw [dat_makeE m none (some ⟨g, 0, none⟩) 0 c] at h0 ⊢
   exact h.2.2 h0
 ·intro h0 B W g c bW ho
  have hk := hrow B W g c bW ho
  have h1 := (make_last m ⟨at0, b⟩ none (some ⟨g, 0, none⟩) 0 c h0).1
  refine (imake (datM m (some ⟨g, 0, none⟩) c m.data) W (hA.to (bW.mono (by have := hA.2.2; omega))) (dat_ok (hm.below bW) (rows_init hk)) (Nat.lt_of_lt_of_le hg bW.size)).mono fun r w' h => ⟨h.1, ?_⟩
  obtain ⟨g1, g2, hr, _⟩ := h.2.1 h1
  exact ⟨g1, g2, hr⟩
 ·exact fun W => (sameImage_any ByteArray.empty ByteArray.empty ⟨none, 0, 0, []⟩ ⟨none, 0, 0, []⟩ ⟨none, 0, 0, []⟩ ⟨none, 0, 0, []⟩ W (nil_ok W) (nil_ok W) (nil_ok W) (nil_ok W)).mono fun r w' h => ⟨by rw [h.1]; simp, h.2⟩
 ·intro h0
  obtain ⟨_, ⟨a, ha, hf, hB⟩, h8⟩ := make_last m ⟨at0, b⟩ none none 0 0 h0
  have ha' : at0 = (a : Int) := ha
  have hf' : a + b.size ≤ (bytsV m).2.length := hf
  have hB' : (bytsV (datM m none 0 (m.data ++ [⟨at0, b⟩]))).2 = splice (bytsV m).2 a (nums b) := hB
  have hta : at0.toNat = a := by omega
  rw [hta, hB']
  have hln : (nums b).length = b.size := nums_length b
  have hsl : (splice (bytsV m).2 a (nums b)).length = (bytsV m).2.length := length_splice _ _ _ (by omega)
  refine ⟨ha', by rw [strOfNums_size, hsl]; exact hf', by rw [strOfNums_size, strOfNums_size, hsl], by rw [strOfNums_size, hsl]; exact h8, ?_, ?_, ?_⟩
  ·rw [str_ext, show a + b.size - a = b.size by omega]
   unfold splice
   rw [List.drop_append_of_le_length (by simp; omega), List.drop_of_length_le (by simp; omega), List.nil_append, List.take_append_of_le_length (by omega), List.take_of_length_le (by omega), str_nums]
  ·rw [str_ext, str_ext, List.drop_zero, List.drop_zero, Nat.sub_zero]
   unfold splice
   rw [List.take_append_of_le_length (by simp; omega), List.take_take, Nat.min_self]
  ·rw [str_ext, str_ext, strOfNums_size, strOfNums_size, hsl]
   congr 1
   unfold splice
   rw [← List.append_assoc, List.drop_append, List.drop_of_length_le (by simp; omega), List.nil_append, hln]
   rw [show a + b.size - (List.take a (bytsV m).2 ++ nums b).length = 0 by simp [hln]; omega, List.drop_zero]
end Go.Proofs.YtoikoijpkchamaaGreatDoor
