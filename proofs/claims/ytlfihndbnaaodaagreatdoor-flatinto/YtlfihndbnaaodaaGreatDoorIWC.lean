/-
 What flat.Func says of a sound body.
 Each way keeps what is there, and leads to a place at which just that is known: the law.
 No way leads into a block: the law.
-/
import Derived.Test.YtlfihndbnaaodaaGreatDoorIWB
import Derived.Test.YtlfihndbnaaodaaGreatDoorIVM
import Derived.Test.YtlfihndbnaaodaaGreatDoorIRMat
set_option maxHeartbeats 4000000
set_option maxRecDepth 1000000
namespace Go.Proofs.YtlfihndbnaaodaaGreatDoor
open Go.RowKit
set_option linter.unusedVariables false
def fkS (m : ModD) (k : Nat) : List Int := (m.types[(m.funcs[k]!).t.toNat]!).r.xs
def floc (m : ModD) (k : Nat) : List Int := (m.types[(m.funcs[k]!).t.toNat]!).i.xs ++ (m.funcs[k]!).l.xs
def fT (m : ModD) (k : Nat) (i : Nat) : TrkV := stV m (floc m k) ((m.funcs[k]!).b.take i) ⟨[], [⟨2, fkS m k, 0, false⟩], false⟩
def flatV (m : ModD) (k : Nat) (j : Nat) : List JmpD := (bodyQ (m.funcs[k]!).b (fT m k)).spot (outJ (m.funcs[k]!).b (fkS m k)) j
def FlatOut (n : Nat) (f : Nat → List JmpD) (w : World) (r : Ending) (w' : World) : Prop :=
 ∃ (g : Nat) (SP : List SpotD), r = .returned (.tuple #[.slice (some ⟨g, 0, none⟩) n n, .int .i64 0]) ∧ SP.length = n ∧ (∀ j, j < n → (SP[j]!).X = f j) ∧ w'.ownsRow w.heap.size 56 1 (.slice (some ⟨g, 0, none⟩) n n) n (SP.map SpotD.v) ∧ (∀ d ∈ SP, d.ok w') ∧ Below w.heap.size w w'
theorem fwell {w : World} {m : ModD} {k : Int} (hm : m.ok w) (hz : funV m k = (0, 0)) (hh : hasE m k = 0) : mChk m = 0 ∧ typD m = 0 ∧ 0 ≤ k ∧ k < (m.funcs.length : Int) ∧ nChk (m.funcs[k.toNat]!).b = 0 ∧ (fkS m k.toNat).length ≤ 1 ∧ Well m (floc m k.toNat) (m.funcs[k.toNat]!).b (fT m k.toNat) (fkS m k.toNat) ∧ 0 ≤ (m.funcs[k.toNat]!).t ∧ (m.funcs[k.toNat]!).t < (m.types.length : Int) := by
 obtain ⟨h1, h2, h3⟩ := has_zero hh
 obtain ⟨hc0, hc2⟩ := head_zero h1
 have hi : k.toNat < m.funcs.length := by omega
 have sm := mod_small hm hc0
 have hfs := sm.2 _ (List.getElem_mem hi)
 have hft := typ_fun hc2 _ (List.getElem_mem hi)
 rw [← getElem!_pos m.funcs _ hi] at hfs hft
 have hr : ∀ d ∈ m.types, d.r.xs.length ≤ 1 := fun d hd => by
  have := (hm.types.all d hd).2.len
  have := (sm.1 d hd).2
  omega
 have hk1 : (fkS m k.toNat).length ≤ 1 := by
  unfold fkS
  have hx : (m.funcs[k.toNat]!).t.toNat < m.types.length := by have := hfs.2.2; omega
  rw [getElem!_pos m.types _ hx]
  exact hr _ (List.getElem_mem hx)
 refine ⟨hc0, hc2, h2, h3, hfs.1, hk1, ?_, hfs.2.2, hft⟩
 refine well_of hfs.1 (by omega) (fun d hd => by have := hr d hd; omega) ?_
 have : firstV m k.toNat = (0, 0) := by
  unfold funV at hz
  rw [if_pos hh] at hz
  exact hz
 unfold firstV at this
 unfold floc fkS
 rw [this]
theorem run_pair (m : ModD) (loc : List Int) : ∀ (L : List InsD) (i : Nat) (T : TrkV), (runV m loc L i T).2 = 0 → runV m loc L i T = (0, 0)
 | [], _, _, _ => rfl
 | d :: L, i, T, h => by
  unfold runV at h ⊢
  split at h
  ·rename_i c
   rw [if_pos c]
   exact run_pair m loc L (i + 1) _ h
  ·rename_i c
   exact absurd h c
theorem sound_says {m : ModD} {w : World} (hm : m.ok w) (at' k' : Int) : ∃ (j q : Nat) (is : Bool), soundV m at' k' = ((j : Int), (q : Int), is) ∧ (is = true → hasE m j = 0 ∧ funV m j = (0, 0) ∧ q < (m.funcs[j]!).b.length) := by
 by_cases hz : modE m = 0 ∧ m.funcs.length ≠ 0
 ·have e : soundV m at' k' = (at' % (m.funcs.length : Int), k' % ((m.funcs[(at' % (m.funcs.length : Int)).toNat]!).b.length : Int), true) := if_pos hz
  have hmz := mod_zero hz.1
  have hc := (head_zero hmz.1).1
  have sm := mod_small hm hc
  have a0 := Int.emod_nonneg at' (b := (m.funcs.length : Int)) (by omega)
  have a1 := Int.emod_lt_of_pos at' (b := (m.funcs.length : Int)) (by omega)
  obtain ⟨j, hj⟩ : ∃ j : Nat, at' % (m.funcs.length : Int) = (j : Int) := ⟨_, (Int.toNat_of_nonneg a0).symm⟩
  rw [hj, Int.toNat_natCast] at e
  rw [hj] at a1
  have hjl : j < m.funcs.length := by omega
  have hmem : m.funcs[j]! ∈ m.funcs := by rw [getElem!_pos m.funcs j hjl]; exact List.getElem_mem hjl
  have hb := (nChk_ok _ (sm.2 _ hmem).1).2.2.2
  have q0 := Int.emod_nonneg k' (b := ((m.funcs[j]!).b.length : Int)) (by omega)
  have q1 := Int.emod_lt_of_pos k' (b := ((m.funcs[j]!).b.length : Int)) (by omega)
  obtain ⟨q, hq⟩ : ∃ q : Nat, k' % ((m.funcs[j]!).b.length : Int) = (q : Int) := ⟨_, (Int.toNat_of_nonneg q0).symm⟩
  rw [hq] at e q1
  refine ⟨j, q, true, e, fun _ => ?_⟩
  have hh : hasE m j = 0 := by
   unfold hasE
   rw [if_pos hmz.1, if_pos ⟨by omega, by omega⟩]
  refine ⟨hh, ?_, by omega⟩
  unfold funV
  rw [if_pos hh, Int.toNat_natCast]
  have := hmz.2 j hjl
  unfold firstV at this ⊢
  exact run_pair _ _ _ _ _ this
 ·exact ⟨0, 0, false, if_neg hz, fun h => by cases h⟩
theorem shapes_are (m : ModD) (k : Nat) : shapesV m k = shpL (fT m k) (m.funcs[k]!).b.length := rfl
theorem fflat (m : ModD) (at' : Int) (w : World) (hm : m.ok w) (hA : Amb w) (hg : 1 < w.heap.size) (hz : funV m at' = (0, 0)) (hh : hasE m at' = 0) :
  Calls Tryz.prog 17 #[.agg #[.slice m.oT m.types.length m.cT, .slice m.oI m.imports.length m.cI, .slice m.oF m.funcs.length m.cF, .int .i64 m.table, .int .i64 m.pages, .int .i64 m.most, .slice m.oG m.globals.length m.cG, .slice m.oE m.exports.length m.cE, .int .i64 m.start, .slice m.oL m.elems.length m.cL, .slice m.oD m.data.length m.cD], .int .i64 at'] w (FlatOut (m.funcs[at'.toNat]!).b.length (flatV m at'.toNat) w) := by
 obtain ⟨hc0, hc2, h0, h1, hn, hk1, hw, hf0, hft⟩ := fwell hm hz hh
 have HSH : Hid (∀ W, Below w.heap.size w W → Calls Tryz.prog 12 #[.agg #[.slice m.oT m.types.length m.cT, .slice m.oI m.imports.length m.cI, .slice m.oF m.funcs.length m.cF, .int .i64 m.table, .int .i64 m.pages, .int .i64 m.most, .slice m.oG m.globals.length m.cG, .slice m.oE m.exports.length m.cE, .int .i64 m.start, .slice m.oL m.elems.length m.cL, .slice m.oD m.data.length m.cD], .int .i64 at'] W (ShpOut W (0, 0) (shpL (fT m at'.toNat) (m.funcs[at'.toNat]!).b.length))) := fun W b => by
  have := vshapes m at' W (hA.below b) (hm.below b) (Nat.lt_of_lt_of_le hg b.size)
  rw [hz, shapes_are] at this
  exact this
 have hi : at'.toNat < m.funcs.length := by omega
 have hcm := hm.funcs.most
 have hcl := hm.funcs.le
 have htm := hm.types.most
 have htl := hm.types.le
 unfold maxLen at hcm htm
 obtain ⟨bb, ff, ho, hbN, hc⟩ := hm.funcs.cellAt (fun e => by rw [e] at hi; exact absurd hi (by simp))
 have hti : (m.funcs[at'.toNat]!).t.toNat < m.types.length := by omega
 obtain ⟨bT, eT, hoT, hbT, hcT⟩ := hm.types.cellAt (fun e => by rw [e] at hti; exact absurd hti (by simp))
 have hfo := hm.funcs.all _ (List.getElem_mem hi)
 have hto := hm.types.all _ (List.getElem_mem hti)
 rw [← getElem!_pos m.funcs _ hi] at hfo
 rw [← getElem!_pos m.types _ hti] at hto
 obtain ⟨_, hlo, hLD, hbl, hbc⟩ := hfo
 have hrl := hto.2.len
 rw [ho, hoT] at HSH
 -- names for what lies there
 obtain ⟨fn, hfn⟩ : ∃ x, m.funcs[at'.toNat]! = x := ⟨_, rfl⟩
 obtain ⟨sg, hsg⟩ : ∃ x, m.types[(m.funcs[at'.toNat]!).t.toNat]! = x := ⟨_, rfl⟩
 have HSG : Hid (type_of% hsg) := hsg
 have HKS : Hid (fkS m at'.toNat = sg.r.xs) := hsg ▸ rfl
 have HFV : Hid (∀ j, flatV m at'.toNat j = (bodyQ fn.b (fT m at'.toNat)).spot (outJ fn.b (fkS m at'.toNat)) j) := fun j => hfn ▸ rfl
 have hcF : ∀ W, Below w.heap.size w W → ∀ r, r < 3 → W.cell? ⟨bb, ff + at'.toNat * 3 + r, none⟩ = (fn.cells)[r]? := fun W b r hr => by rw [← hfn]; exact hc W b _ hi r hr
 have hcS : ∀ W, Below w.heap.size w W → ∀ r, r < 2 → W.cell? ⟨bT, eT + fn.t.toNat * 2 + r, none⟩ = (sg.cells)[r]? := fun W b r hr => by rw [← hsg, ← hfn]; exact hcT W b _ hti r hr
 rw [hsg] at hrl
 rw [hfn] at hn hw hf0 hft hLD hbl hbc HSH hti ⊢
 clear hc hcT hsg hfn hto hlo
 obtain ⟨ft, ⟨lo, ln, lc, lx⟩, bo, bc, body⟩ := fn
 obtain ⟨⟨io, iN, ic, ix⟩, ⟨ro, rN, rc, rx⟩⟩ := sg
 dsimp only at hn hw hf0 hft hLD hbl hbc HSH hti hrl HFV hcS HKS ⊢
 unfold maxLen at hbc
 obtain ⟨hn200, _, _, hn0⟩ := nChk_ok body hn
 obtain ⟨bL, fL, rfl, hbL, hcL⟩ := hLD.2.resolve_left (fun e => by rw [e] at hn0; exact absurd hn0 (by simp))
 have HLD : Hid (type_of% hLD) := hLD
 have HW : Hid (type_of% hw) := hw
 have HN : Hid (nChk body = 0) := hn
 have HMT : Hid (∀ W, Below w.heap.size w W → Calls Tryz.prog 30 #[.slice (some ⟨bL, fL, none⟩) body.length bc] W fun r w' => ∃ gE gS o2 cap2, r = .returned (.tuple #[.slice (some ⟨gE, 0, none⟩) body.length body.length, .slice (some ⟨gS, 0, none⟩) body.length body.length, .int .i64 0]) ∧ MS W w' gE gS body.length (matchOf body).1 (matchOf body).2.1 (matchOf body).2.2 o2 cap2) := fun W b => match_any _ bc body W (hLD.below b) (hA.below b).1 (Nat.lt_of_lt_of_le hg b.size) hn
 obtain ⟨v, hv⟩ : ∃ v, v = w.alloc (.cells #[.slice (some ⟨bT, eT, none⟩) m.types.length m.cT, .slice m.oI m.imports.length m.cI, .slice (some ⟨bb, ff, none⟩) m.funcs.length m.cF, .int .i64 m.table, .int .i64 m.pages, .int .i64 m.most, .slice m.oG m.globals.length m.cG, .slice m.oE m.exports.length m.cE, .int .i64 m.start, .slice m.oL m.elems.length m.cL, .slice m.oD m.data.length m.cD] 30) := ⟨_, rfl⟩
 have hvs : v.heap.size = w.heap.size + 1 := by rw [hv]; simp
 have hb1 : Below w.heap.size w v := by rw [hv]; exact (Below.refl _ _).alloc (Nat.le_refl _) _
 have nb : v.heap[w.heap.size]? = some (.cells #[.slice (some ⟨bT, eT, none⟩) m.types.length m.cT, .slice m.oI m.imports.length m.cI, .slice (some ⟨bb, ff, none⟩) m.funcs.length m.cF, .int .i64 m.table, .int .i64 m.pages, .int .i64 m.most, .slice m.oG m.globals.length m.cG, .slice m.oE m.exports.length m.cE, .int .i64 m.start, .slice m.oL m.elems.length m.cL, .slice m.oD m.data.length m.cD] 30 (0, 0)) := by rw [hv]; exact new_block w _
 have HV : Hid (v = w.alloc (.cells #[.slice (some ⟨bT, eT, none⟩) m.types.length m.cT, .slice m.oI m.imports.length m.cI, .slice (some ⟨bb, ff, none⟩) m.funcs.length m.cF, .int .i64 m.table, .int .i64 m.pages, .int .i64 m.most, .slice m.oG m.globals.length m.cG, .slice m.oE m.exports.length m.cE, .int .i64 m.start, .slice m.oL m.elems.length m.cL, .slice m.oD m.data.length m.cD] 30)) := hv
 have HB1 : Hid (Below w.heap.size w v ∧ w.heap.size ≤ v.heap.size) := ⟨hb1, hb1.size⟩
 have HS : Hid (∀ W, Below v.heap.size v W → (W.cell? ⟨w.heap.size, 0, none⟩ = some (.slice (some ⟨bT, eT, none⟩) m.types.length m.cT) ∧ W.cell? ⟨w.heap.size, 1, none⟩ = some (.slice m.oI m.imports.length m.cI) ∧ W.cell? ⟨w.heap.size, 2, none⟩ = some (.slice (some ⟨bb, ff, none⟩) m.funcs.length m.cF) ∧ W.cell? ⟨w.heap.size, 3, none⟩ = some (.int .i64 m.table) ∧ W.cell? ⟨w.heap.size, 4, none⟩ = some (.int .i64 m.pages) ∧ W.cell? ⟨w.heap.size, 5, none⟩ = some (.int .i64 m.most) ∧ W.cell? ⟨w.heap.size, 6, none⟩ = some (.slice m.oG m.globals.length m.cG) ∧ W.cell? ⟨w.heap.size, 7, none⟩ = some (.slice m.oE m.exports.length m.cE) ∧ W.cell? ⟨w.heap.size, 8, none⟩ = some (.int .i64 m.start) ∧ W.cell? ⟨w.heap.size, 9, none⟩ = some (.slice m.oL m.elems.length m.cL) ∧ W.cell? ⟨w.heap.size, 10, none⟩ = some (.slice m.oD m.data.length m.cD)) ∧ W.cell? ⟨bb, ff + at'.toNat * 3, none⟩ = some (.int .i64 ft) ∧ W.cell? ⟨bb, ff + at'.toNat * 3 + 1, none⟩ = some (.slice lo ln lc) ∧ W.cell? ⟨bb, ff + at'.toNat * 3 + 2, none⟩ = some (.slice (some ⟨bL, fL, none⟩) body.length bc) ∧ W.cell? ⟨bT, eT + ft.toNat * 2, none⟩ = some (.slice io iN ic) ∧ W.cell? ⟨bT, eT + ft.toNat * 2 + 1, none⟩ = some (.slice ro rN rc)) := fun W b => by
  have a1 := (b.block w.heap.size (by omega)).trans nb
  have bw := hb1.trans (b.mono hb1.size)
  exact ⟨⟨cell_at a1 0 rfl, cell_at a1 1 rfl, cell_at a1 2 rfl, cell_at a1 3 rfl, cell_at a1 4 rfl, cell_at a1 5 rfl, cell_at a1 6 rfl, cell_at a1 7 rfl, cell_at a1 8 rfl, cell_at a1 9 rfl, cell_at a1 10 rfl⟩, hcF W bw 0 (by omega), hcF W bw 1 (by omega), hcF W bw 2 (by omega), hcS W bw 0 (by omega), hcS W bw 1 (by omega)⟩
 have HBL : Hid (bL < w.heap.size) := hbL
 have HAG : Hid (0 < body.length) := hn0
 have HT1 : Hid (0 ≤ ft ∧ ft < (m.types.length : Int)) := ⟨hf0, hft⟩
 have HNL : Hid (rx.length = rN) := hrl
 obtain ⟨⟨f0, f1, f2, f3, f4, f5, f6, f7, f8, f9, f10⟩, _, _, _, _, _⟩ := HS.out _ (Below.refl _ _)
 obtain ⟨n, hnn⟩ : ∃ n, body.length = n := ⟨_, rfl⟩
 have HNN : Hid (type_of% hnn) := hnn
 rw [hnn] at HSH HMT hn200 hbl ⊢
 have HS' : Hid (type_of% HS.out) := HS.out
 rw [hnn] at HS'
 have hnI : (n : Int) ≤ 200 := by omega
 rw [ho, hoT]
 rw [hv] at f0 f1 f2 f3 f4 f5 f6 f7 f8 f9 f10
 clear ho hoT hw hn hLD hbL hcL hcF hcS hb1 nb hvs hA hm hz hh hc0 hc2 hk1 hnn hn0 HS hrl hv
 go_enter Tryz.func17, Tryz.ntmps17
 go_wp2_with fail
 rw [← HV.out]
 refine (HSH.out _ HB1.out.1).mono ?_
 rintro r w1 ⟨b1, hz1, _⟩
 obtain ⟨os, cs, D, rfl, hD, hDo, hDk⟩ := hz1 rfl
 have hDL : D.length = n := by
  have := congrArg List.length hD
  unfold shpL at this
  simpa using this
 rw [hDL] at hDo
 rw [hDL]
 have hn0 : 0 < n := by have := HAG.out; rw [HNN.out] at this; exact this
 obtain ⟨gD, cD, hvD, hbD, hgD⟩ := hDo.form hn0
 simp only [Value.slice.injEq] at hvD
 obtain ⟨rfl, _, rfl⟩ := hvD
 have hcs : n ≤ cs ∧ cs ≤ maxLen := by
  rcases hDo.2 with ⟨h1, _⟩ | ⟨g', c, cur, h1, _, _, h2, h3, _⟩
  ·cases h1
  ·simp only [Value.slice.injEq] at h1
   omega
 have HDV : Hid (∀ i, i < n → ((D[i]!).dead, (D[i]!).k.xs) = shpV (fT m at'.toNat i) ∧ (D[i]!).k.ok .u8 w1) := fun i hi => by
  have hid : i < D.length := by rw [hDL]; exact hi
  rw [getElem!_pos D i hid]
  refine ⟨?_, hDk _ (List.getElem_mem hid)⟩
  have := congrArg (fun l => l[i]?) hD
  simp only [List.getElem?_map, List.getElem?_eq_getElem hid, Option.map_some] at this
  unfold shpL at this
  simp only [List.getElem?_map, List.getElem?_range hi, Option.map_some, Option.some.injEq] at this
  exact this
 have HDC : Hid (∀ i, i < n → w1.cell? ⟨gD, 0 + i * 2, none⟩ = some (.bool (D[i]!).dead) ∧ w1.cell? ⟨gD, 0 + i * 2 + 1, none⟩ = some (.slice (D[i]!).k.o (D[i]!).k.n (D[i]!).k.cap)) := fun i hi => by
  have hid : i < D.length := by rw [hDL]; exact hi
  have cl (r : Nat) (hr : r < 2) : w1.cell? ⟨gD, i * 2 + r, none⟩ = (D[i]!).cells[r]? := by
   rw [hDo.cellAt (i * 2 + r) (by omega), flat_at ShpD.cells 2 (fun _ => rfl) D i r hid hr, getElem!_pos D i hid]
  rw [Nat.zero_add]
  exact ⟨cl 0 (by omega), cl 1 (by omega)⟩
 have HGD : Hid (gD < w1.heap.size ∧ n ≤ cs ∧ cs ≤ maxLen) := ⟨hgD, hcs⟩
 have HB2 : Hid (Below v.heap.size v w1 ∧ v.heap.size ≤ w1.heap.size) := ⟨b1, b1.size⟩
 obtain ⟨⟨m0, m1, m2, m3, m4, m5, m6, m7, m8, m9, m10⟩, g0, g1, g2, _, _⟩ := HS'.out _ b1
 clear hD hDo hDk hbD hgD hcs b1 hz1 HSH f0 f1 f2 f3 f4 f5 f6 f7 f8 f9 f10
 go_wp2_with fail
 obtain ⟨w2, hw2⟩ : ∃ x, x = w1.alloc (.cells #[.int .i64 ft, .slice lo ln lc, .slice (some ⟨bL, fL, none⟩) n bc] 59) := ⟨_, rfl⟩
 have HB3 : Hid (Below w1.heap.size w1 w2 ∧ w1.heap.size < w2.heap.size) := by
  unfold Hid
  rw [hw2]
  exact ⟨(Below.refl _ _).alloc (Nat.le_refl _) _, by simp⟩
 have nf : w2.heap[w1.heap.size]? = some (.cells #[.int .i64 ft, .slice lo ln lc, .slice (some ⟨bL, fL, none⟩) n bc] 59 (0, 0)) := by rw [hw2]; exact new_block w1 _
 rw [← hw2]
 refine (HMT.out _ (HB1.out.1.trans ((HB2.out.1.trans (HB3.out.1.mono HB2.out.2)).mono HB1.out.2))).mono ?_
 rintro r w3 ⟨gE, gS, o2, cap2, rfl, hMS⟩
 have hb3 := hMS.below
 have nf3 : w3.heap[w1.heap.size]? = some (.cells #[.int .i64 ft, .slice lo ln lc, .slice (some ⟨bL, fL, none⟩) n bc] 59 (0, 0)) := (hb3.block _ HB3.out.2).trans nf
 have HB4 : Hid (Below v.heap.size v w3 ∧ v.heap.size ≤ w3.heap.size) := by
  have h1 := HB2.out.1.trans (HB3.out.1.mono HB2.out.2)
  have h2 := h1.trans (hb3.mono h1.size)
  exact ⟨h2, h2.size⟩
 have HB13 : Hid (Below w1.heap.size w1 w3) := HB3.out.1.trans (hb3.mono (Nat.le_of_lt HB3.out.2))
 have HWB : Hid (Below w.heap.size w w3 ∧ w.heap.size ≤ w3.heap.size) := by
  have h := HB1.out.1.trans (HB4.out.1.mono HB1.out.2)
  exact ⟨h, h.size⟩
 have lE := (hMS.ends.lt gE rfl).2
 have lS := (hMS.elses.lt gS rfl).2
 have HQ : Hid (FQ.ok w3 ⟨body, D, (matchOf body).2.1, (matchOf body).2.2, bL, fL, bc, gD, 0, cs, gE, gS⟩) := by
  refine ⟨⟨by have := HBL.out; have := HWB.out.2; show bL < _; omega, by have := HGD.out.1; have := HB13.out.size; show gD < _; omega, lE, lS⟩, ⟨by show body.length ≤ 200; rw [HNN.out]; exact hn200, by show body.length ≤ bc; rw [HNN.out]; exact hbl, hbc, by show body.length ≤ cs; rw [HNN.out]; exact HGD.out.2.1, by have := HGD.out.2.2; unfold maxLen at this; exact this⟩, fun i hi => ?_, fun i hi => ?_, fun i hi => (hMS.cellE i (by rw [← HNN.out]; exact hi)).1, fun i hi => (hMS.cellS i (by rw [← HNN.out]; exact hi)).1, fun i hi => ?_⟩
  ·have hi : i < body.length := hi
   obtain ⟨b, f, e, hb, hcl⟩ := (HLD.out.below HWB.out.1).2.resolve_left (fun e => by rw [e] at hi; exact absurd hi (by simp))
   simp only [Option.some.injEq, Addr.mk.injEq, and_true] at e
   obtain ⟨rfl, rfl⟩ := e
   show _ ∧ _
   have := hcl i hi
   rw [← getElem!_pos body i hi] at this
   exact this
  ·have hi : i < n := by rw [← HNN.out]; exact hi
   obtain ⟨a0, a1⟩ := HDC.out i hi
   exact ⟨(HB13.out.cell (p := ⟨gD, _, none⟩) HGD.out.1).trans a0, (HB13.out.cell (p := ⟨gD, _, none⟩) HGD.out.1).trans a1⟩
  ·have hi : i < body.length := hi
   obtain ⟨a0, a1⟩ := HDV.out i (by rw [← HNN.out]; exact hi)
   refine ⟨?_, a1.le, by have := a1.most; unfold maxLen at this; exact this⟩
   have h2 : (D[i]!).k.xs.length = (D[i]!).k.n := a1.len
   have h3 : (shpV (fT m at'.toNat i)).2 = (D[i]!).k.xs := by rw [← a0]
   obtain ⟨st, pre, b, e, hok, _⟩ := HW.out.step i hi
   have h4 := hok.len
   have h5 : (shpV (fT m at'.toNat i)).2.length ≤ (fT m at'.toNat i).st.length := by unfold shpV; split <;> simp
   rw [h3, h2] at h5
   have := HNN.out
   show (D[i]!).k.n ≤ _
   omega
 have x0 := cell_at nf3 0 rfl
 have x2 := cell_at nf3 2 rfl
 have HNF : Hid (type_of% nf3) := nf3
 have HLF : Hid (w1.heap.size < w3.heap.size) := some_lt nf3
 clear hMS hb3 nf3 nf hw2 HMT m0 m1 m2 m3 m4 m5 m6 m7 m8 m9 m10 g0 g1 g2 lE lS
 -- the trail
 obtain ⟨w4, hw4⟩ : ∃ x, x = w3.alloc (.cells #[.slice (some ⟨bL, fL, none⟩) n bc, .slice (some ⟨gD, 0, none⟩) n cs, .slice (some ⟨gE, 0, none⟩) n n, .slice (some ⟨gS, 0, none⟩) n n, .slice none 0 0] 80) := ⟨_, rfl⟩
 have b4 : Below w3.heap.size w3 w4 := by rw [hw4]; exact (Below.refl _ _).alloc (Nat.le_refl _) _
 have n4 : w4.heap[w3.heap.size]? = some (.cells #[.slice (some ⟨bL, fL, none⟩) n bc, .slice (some ⟨gD, 0, none⟩) n cs, .slice (some ⟨gE, 0, none⟩) n n, .slice (some ⟨gS, 0, none⟩) n n, .slice none 0 0] 80 (0, 0)) := by rw [hw4]; exact new_block w3 _
 have HV4 : Hid (type_of% hw4) := hw4
 have hTW : TW w4 w3.heap.size w3.heap.size ⟨body, D, (matchOf body).2.1, (matchOf body).2.2, bL, fL, bc, gD, 0, cs, gE, gS⟩ none 0 [] := by
  refine ⟨?_, World.ownsRow_nil _ _ _ _, Nat.le_refl _, HQ.out.below b4, HQ.out.lt⟩
  unfold FQ.C
  rw [show (⟨body, D, (matchOf body).2.1, (matchOf body).2.2, bL, fL, bc, gD, 0, cs, gE, gS⟩ : FQ).L.length = n from HNN.out]
  exact n4
 have HTW : Hid (type_of% hTW) := hTW
 have HWO : Hid (Calls Tryz.prog 31 #[.pointer (some ⟨w3.heap.size, 0, none⟩), .agg #[.slice io iN ic, .slice ro rN rc]] w4 fun r w' => r = .returned (.agg #[.int .i64 ((n : Int) - 1), .int .i64 (rN : Int), .int .i64 0]) ∧ Below w4.heap.size w4 w') := by
  have := fwayOut hTW HAG.out io ro iN ic rN rc
  rw [show (⟨body, D, (matchOf body).2.1, (matchOf body).2.2, bL, fL, bc, gD, 0, cs, gE, gS⟩ : FQ).L.length = n from HNN.out] at this
  exact this
 have hB5 : Below v.heap.size v w4 := HB4.out.1.trans (b4.mono HB4.out.2)
 obtain ⟨⟨m0, m1, m2, m3, m4, m5, m6, m7, m8, m9, m10⟩, _, _, _, t0, t1⟩ := HS'.out _ hB5
 have y0 := cell_at ((b4.block _ HLF.out).trans HNF.out) 0 rfl
 have HB5 : Hid (Below v.heap.size v w4 ∧ v.heap.size ≤ w4.heap.size) := ⟨hB5, hB5.size⟩
 have HN4 : Hid (type_of% n4) := n4
 have htI0 := HT1.out.1
 have htI1 := HT1.out.2
 rw [hw4] at m0 t0 t1 y0
 clear m1 m2 m3 m4 m5 m6 m7 m8 m9 m10 b4 n4 hTW hB5 hw4
 go_wp2_with fail
 rw [← HV4.out]
 refine HWO.out.mono ?_
 rintro r w5 ⟨rfl, b5⟩
 have h34 : w3.heap.size < w4.heap.size := some_lt HN4.out
 obtain ⟨w6, hw6⟩ : ∃ x, x = w5.alloc (.cells #[.int .i64 ((n : Int) - 1), .int .i64 (rN : Int), .int .i64 0] 61) := ⟨_, rfl⟩
 have b6 : Below w5.heap.size w5 w6 := by rw [hw6]; exact (Below.refl _ _).alloc (Nat.le_refl _) _
 have b46 : Below w4.heap.size w4 w6 := b5.trans (b6.mono b5.size)
 have n6 : w6.heap[w3.heap.size]? = some (.cells #[.slice (some ⟨bL, fL, none⟩) n bc, .slice (some ⟨gD, 0, none⟩) n cs, .slice (some ⟨gE, 0, none⟩) n n, .slice (some ⟨gS, 0, none⟩) n n, .slice none 0 0] 80 (0, 0)) := (b46.block _ h34).trans HN4.out
 have k4 := cell_at n6 4 rfl
 have f4 := thaw_box n6 4
 have hJ0 : (⟨(n : Int) - 1, (rN : Int), 0⟩ : JmpD) = outJ body (fkS m at'.toNat) := by
  unfold outJ
  rw [HNN.out, HKS.out, show rx.length = rN from HNL.out]
 have HJ0 : Hid (type_of% hJ0) := hJ0
 obtain ⟨w7, hw7⟩ : ∃ x, x = w6.setCell ⟨w3.heap.size, 4, none⟩ (.slice (some ⟨w5.heap.size, 0, none⟩) 1 1) := ⟨_, rfl⟩
 have c7 : Chg w3.heap.size w6 w7 := by rw [hw7]; exact Chg.set _ _ _ _
 have h35 : w3.heap.size < w5.heap.size := Nat.lt_of_lt_of_le h34 b5.size
 have hT7 : TW w7 w3.heap.size w3.heap.size ⟨body, D, (matchOf body).2.1, (matchOf body).2.2, bL, fL, bc, gD, 0, cs, gE, gS⟩ (some ⟨w5.heap.size, 0, none⟩) 1 [outJ body (fkS m at'.toNat)] := by
  refine ⟨?_, ?_, Nat.le_refl _, (HTW.out.fq.below b46).chg c7 (HTW.out.far (Nat.le_refl _)), HTW.out.ap⟩
  ·unfold FQ.C
   rw [show (⟨body, D, (matchOf body).2.1, (matchOf body).2.2, bL, fL, bc, gD, 0, cs, gE, gS⟩ : FQ).L.length = n from HNN.out, hw7]
   simp [World.setCell, Array.getElem?_modify, n6]
  ·have h1 := World.ownsRow_lit (base := w3.heap.size) (e := 61) (size := 3) w5 #[.int .i64 ((n : Int) - 1), .int .i64 (rN : Int), .int .i64 0] 1 (Nat.le_of_lt h35) (by unfold maxLen; omega) rfl
   rw [← hw6] at h1
   rw [← hJ0]
   exact own_chg h1 c7 (by simp only [Value.ownBlock, ne_eq, Option.some.injEq]; omega)
 have hsame : FQ.same ⟨body, D, (matchOf body).2.1, (matchOf body).2.2, bL, fL, bc, gD, 0, cs, gE, gS⟩ (bodyQ body (fT m at'.toNat)) := ⟨rfl, rfl, rfl, fun i hi => by
  have hi : i < body.length := hi
  obtain ⟨a0, a1⟩ := HDV.out i (by rw [← HNN.out]; exact hi)
  obtain ⟨b0, b1⟩ := shpL_at (fT m at'.toNat) body (matchOf body).2.1 (matchOf body).2.2 i hi
  refine ⟨Eq.trans (by rw [← a0]) b0.symm, Eq.trans ?_ b1.symm⟩
  have h2 : (D[i]!).k.xs.length = (D[i]!).k.n := a1.len
  show (D[i]!).k.n = _
  rw [← a0, ← h2]⟩
 have hb7 : Below w.heap.size w w7 := by
  have h1 : Below w.heap.size w w4 := HB1.out.1.trans (HB5.out.1.mono HB1.out.2)
  have h2 : Below w.heap.size w w6 := h1.trans (b46.mono h1.size)
  exact h2.trans (c7.below HWB.out.2 h2.size)
 have HSP : Hid (Calls Tryz.prog 32 #[.pointer (some ⟨w3.heap.size, 0, none⟩)] w7 (SpotsOut w3.heap.size n w7 (FQ.spot ⟨body, D, (matchOf body).2.1, (matchOf body).2.2, bL, fL, bc, gD, 0, cs, gE, gS⟩ (outJ body (fkS m at'.toNat))))) := by
  have h1 : w3.heap.size ≤ w7.heap.size := Nat.le_trans (Nat.le_of_lt h35) (Nat.le_trans b6.size c7.size)
  have := fspots hT7 h1 w HWB.out.2 hb7 (fun i hi => by
   have hi : i < body.length := hi
   obtain ⟨z1, z2, z3⟩ := fine_all HW.out HN.out w HLD.out.1 i hi
   refine ⟨?_, ?_, z2, z3⟩
   ·rw [hsame.open _ i (Nat.le_of_lt hi)]
    exact hsame.fine z1
   ·show (body[i]!).ok w
    rw [getElem!_pos body i hi]
    exact HLD.out.1 _ (List.getElem_mem hi))
  rw [show (⟨body, D, (matchOf body).2.1, (matchOf body).2.2, bL, fL, bc, gD, 0, cs, gE, gS⟩ : FQ).L.length = n from HNN.out] at this
  exact this
 have HSA : Hid (type_of% hsame) := hsame
 have HB7 : Hid (Below w.heap.size w w7) := hb7
 have HW7 : Hid (type_of% hw7) := hw7
 rw [hw6] at k4 f4
 have HW6 : Hid (type_of% hw6) := hw6
 clear b5 b6 b46 n6 c7 hT7 hsame hb7 hw7 hw6 hJ0 h34 h35 m0 y0 t0 t1 HWO HTW
 go_wp2_with fail
 rw [← HW6.out, ← HW7.out]
 refine HSP.out.mono ?_
 rintro r w8 ⟨g, SP, rfl, s1, s2, s3, s4, s5⟩
 have HR : Hid (FlatOut n (flatV m at'.toNat) w (.returned (.tuple #[.slice (some ⟨g, 0, none⟩) n n, .int .i64 0])) w8) := by
  refine ⟨g, SP, rfl, s1, fun j hj => ?_, own_low s3 HWB.out.2, s4, HB7.out.trans (s5.mono HWB.out.2)⟩
  rw [s2 j hj, HFV.out]
  exact HSA.out.spot _ j (by show j < body.length; rw [HNN.out]; exact hj)
 clear s1 s2 s3 s4 s5 k4 f4
 go_wp2
 refine bodyPost_ret (results_tmp2 rfl _ _ _) rfl ?_
 exact HR.out
end Go.Proofs.YtlfihndbnaaodaaGreatDoor
namespace Go.Proofs.YtlfihndbnaaodaaGreatDoor
open Go.RowKit
set_option linter.unusedVariables false
def ret2 (X : Nat) (T F : Nat) : ModD := ⟨some ⟨T, 0, none⟩, 1, [default], none, 0, [], some ⟨F, 0, none⟩, 1, [⟨0, default, some ⟨X, 0, none⟩, 2, [⟨15, 0, 0, none, 0, 0, []⟩, ⟨11, 0, 0, none, 0, 0, []⟩]⟩], 0, 0, 0, none, 0, [], none, 0, [], 0, none, 0, [], none, 0, []⟩
theorem ret2_ok {w : World} {X T F : Nat} (hX : w.heap[X]? = some (.cells #[.int .u8 15, .int .i64 0, .int .i64 0, .slice none 0 0, .int .u8 11, .int .i64 0, .int .i64 0, .slice none 0 0] 53 (0, 0))) (hT : w.heap[T]? = some (.cells #[.slice none 0 0, .slice none 0 0] 83 (0, 0))) (hF : w.heap[F]? = some (.cells #[.int .i64 0, .slice none 0 0, .slice (some ⟨X, 0, none⟩) 2 2] 59 (0, 0))) : (ret2 X T F).ok w := by
 have hi : inI 0 := ⟨by decide, by decide⟩
 have ins (op : Int) (h0 : 0 ≤ op) (h1 : op ≤ 255) : (⟨op, 0, 0, none, 0, 0, []⟩ : InsD).ok w := ⟨h0, h1, ⟨by show (-9223372036854775808 : Int) ≤ 0; decide, by show (0 : Int) ≤ 9223372036854775807; decide⟩, Nat.le_refl _, Nat.zero_le _, ⟨rfl, Or.inl rfl⟩, fun _ => rfl⟩
 refine ⟨⟨Nat.le_refl _, by show (1 : Nat) ≤ maxLen; unfold maxLen; decide, fun h => (by cases h), fun d hd => ?_, Or.inr ⟨T, 0, rfl, some_lt hT, fun i hi r hr => ?_⟩⟩, rows_none _ _ _ _, ⟨Nat.le_refl _, by show (1 : Nat) ≤ maxLen; unfold maxLen; decide, fun h => (by cases h), fun d hd => ?_, Or.inr ⟨F, 0, rfl, some_lt hF, fun i hi r hr => ?_⟩⟩, hi, hi, hi, rows_none _ _ _ _, rows_none _ _ _ _, hi, rows_none _ _ _ _, rows_none _ _ _ _⟩
 ·obtain rfl : d = default := by simpa [ret2] using hd
  exact ⟨num_none w, num_none w⟩
 ·obtain rfl : i = 0 := by simpa [ret2] using hi
  have : r = 0 ∨ r = 1 := by omega
  rcases this with rfl | rfl
  ·exact cell_at hT 0 rfl
  ·exact cell_at hT 1 rfl
 ·obtain rfl : d = ⟨0, default, some ⟨X, 0, none⟩, 2, [⟨15, 0, 0, none, 0, 0, []⟩, ⟨11, 0, 0, none, 0, 0, []⟩]⟩ := by simpa [ret2] using hd
  refine ⟨hi, num_none w, ⟨fun x hx => ?_, Or.inr ⟨X, 0, rfl, some_lt hX, fun j hj => ?_⟩⟩, Nat.le_refl _, by show (2 : Nat) ≤ maxLen; unfold maxLen; decide⟩
  ·have : x = ⟨15, 0, 0, none, 0, 0, []⟩ ∨ x = ⟨11, 0, 0, none, 0, 0, []⟩ := by simpa using hx
   rcases this with rfl | rfl
   ·exact ins 15 (by decide) (by decide)
   ·exact ins 11 (by decide) (by decide)
  ·have : j = 0 ∨ j = 1 := by simp at hj; omega
   rcases this with rfl | rfl
   ·exact ⟨cell_at hX 0 rfl, cell_at hX 1 rfl, cell_at hX 2 rfl, cell_at hX 3 rfl⟩
   ·exact ⟨cell_at hX 4 rfl, cell_at hX 5 rfl, cell_at hX 6 rfl, cell_at hX 7 rfl⟩
 ·obtain rfl : i = 0 := by simpa [ret2] using hi
  have : r = 0 ∨ r = 1 ∨ r = 2 := by omega
  rcases this with rfl | rfl | rfl
  ·exact cell_at hF 0 rfl
  ·exact cell_at hF 1 rfl
  ·exact cell_at hF 2 rfl
theorem ret2_says (X T F : Nat) : hasE (ret2 X T F) 0 = 0 ∧ funV (ret2 X T F) 0 = (0, 0) ∧ ∃ j, flatV (ret2 X T F) 0 0 = [j] := ⟨rfl, rfl, _, rfl⟩
theorem flat_ret {W : World} (X T F : Nat) (hA : Amb W) (hg : 1 < W.heap.size) (hm : (ret2 X T F).ok W) : Calls Tryz.prog 17 #[.agg #[.slice (some ⟨T, 0, none⟩) 1 1, .slice none 0 0, .slice (some ⟨F, 0, none⟩) 1 1, .int .i64 0, .int .i64 0, .int .i64 0, .slice none 0 0, .slice none 0 0, .int .i64 0, .slice none 0 0, .slice none 0 0], .int .i64 0] W fun r w' => ∃ (g : Nat) (o : Option Addr) (cap : Nat), r = .returned (.tuple #[.slice (some ⟨g, 0, none⟩) 2 2, .int .i64 0]) ∧ w'.cell? ⟨g, 0, none⟩ = some (.slice o 1 cap) ∧ Below W.heap.size W w' := by
 obtain ⟨h1, h2, j, h3⟩ := ret2_says X T F
 refine (fflat (ret2 X T F) 0 W hm hA hg h2 h1).mono ?_
 rintro r w' ⟨g, SP, rfl, s1, s2, s3, _, b⟩
 have s1 : SP.length = 2 := s1
 refine ⟨g, (SP[0]!).o, (SP[0]!).cap, rfl, ?_, b⟩
 have h4 := s2 0 (show 0 < 2 by decide)
 rw [show flatV (ret2 X T F) (0 : Int).toNat 0 = [j] from h3] at h4
 have h5 := s3.cellAt 0 (show 0 < 2 * 1 by decide)
 rw [List.getElem?_map, List.getElem?_eq_getElem (by omega), ← getElem!_pos SP 0 (by omega)] at h5
 rw [h5]
 show some (SpotD.v (SP[0]!)) = _
 unfold SpotD.v
 rw [h4]
 rfl
end Go.Proofs.YtlfihndbnaaodaaGreatDoor
namespace Go.Proofs.YtlfihndbnaaodaaGreatDoor
open Go.RowKit
set_option linter.unusedVariables false
theorem into_all (m : ModD) (at' k' : Int) (w : World) (hA : Amb w) (hX : MaxIn w) (hm : m.ok w) (hg : 1 < w.heap.size) (j q : Nat) (is : Bool) (hs : ∀ W, Below w.heap.size w W → Calls Tryz.prog 16 #[.agg #[.slice m.oT m.types.length m.cT, .slice m.oI m.imports.length m.cI, .slice m.oF m.funcs.length m.cF, .int .i64 m.table, .int .i64 m.pages, .int .i64 m.most, .slice m.oG m.globals.length m.cG, .slice m.oE m.exports.length m.cE, .int .i64 m.start, .slice m.oL m.elems.length m.cL, .slice m.oD m.data.length m.cD], .int .i64 at', .int .i64 k'] W fun r w' => r = .returned (.tuple #[.int .i64 (j : Int), .int .i64 (q : Int), .bool is]) ∧ Below W.heap.size W w') (hy : is = true → hasE m j = 0 ∧ funV m j = (0, 0) ∧ q < (m.funcs[j]!).b.length) :
  Calls Tryz.prog 7 #[.agg #[.slice m.oT m.types.length m.cT, .slice m.oI m.imports.length m.cI, .slice m.oF m.funcs.length m.cF, .int .i64 m.table, .int .i64 m.pages, .int .i64 m.most, .slice m.oG m.globals.length m.cG, .slice m.oE m.exports.length m.cE, .int .i64 m.start, .slice m.oL m.elems.length m.cL, .slice m.oD m.data.length m.cD], .int .i64 at', .int .i64 k'] w fun r w' => r = .returned (.bool true) ∧ Below w.heap.size w w' := by
 have HFB : Hid (∀ X T F W, Below w.heap.size w W → (ret2 X T F).ok W → Calls Tryz.prog 17 #[.agg #[.slice (some ⟨T, 0, none⟩) 1 1, .slice none 0 0, .slice (some ⟨F, 0, none⟩) 1 1, .int .i64 0, .int .i64 0, .int .i64 0, .slice none 0 0, .slice none 0 0, .int .i64 0, .slice none 0 0, .slice none 0 0], .int .i64 0] W fun r w' => ∃ (g : Nat) (o : Option Addr) (cap : Nat), r = .returned (.tuple #[.slice (some ⟨g, 0, none⟩) 2 2, .int .i64 0]) ∧ w'.cell? ⟨g, 0, none⟩ = some (.slice o 1 cap) ∧ Below W.heap.size W w') := fun X T F W b h => flat_ret X T F (hA.below b) (Nat.lt_of_lt_of_le hg b.size) h
 have HSD : Hid (type_of% hs) := hs
 obtain ⟨oF, hoF⟩ : ∃ x, m.oF = x := ⟨_, rfl⟩
 have HOF : Hid (type_of% hoF) := hoF
 rw [hoF] at HSD ⊢
 have HMX : Hid (MaxIn w) := hX
 have HM : Hid (m.ok w ∧ Amb w ∧ 1 < w.heap.size) := ⟨hm, hA, hg⟩
 have HY : Hid (type_of% hy) := hy
 obtain ⟨v, hv⟩ : ∃ v, v = w.alloc (.cells #[.slice m.oT m.types.length m.cT, .slice m.oI m.imports.length m.cI, .slice oF m.funcs.length m.cF, .int .i64 m.table, .int .i64 m.pages, .int .i64 m.most, .slice m.oG m.globals.length m.cG, .slice m.oE m.exports.length m.cE, .int .i64 m.start, .slice m.oL m.elems.length m.cL, .slice m.oD m.data.length m.cD] 30) := ⟨_, rfl⟩
 have hvs : v.heap.size = w.heap.size + 1 := by rw [hv]; simp
 have hb1 : Below w.heap.size w v := by rw [hv]; exact (Below.refl _ _).alloc (Nat.le_refl _) _
 have nb : v.heap[w.heap.size]? = some (.cells #[.slice m.oT m.types.length m.cT, .slice m.oI m.imports.length m.cI, .slice oF m.funcs.length m.cF, .int .i64 m.table, .int .i64 m.pages, .int .i64 m.most, .slice m.oG m.globals.length m.cG, .slice m.oE m.exports.length m.cE, .int .i64 m.start, .slice m.oL m.elems.length m.cL, .slice m.oD m.data.length m.cD] 30 (0, 0)) := by rw [hv]; exact new_block w _
 have HV : Hid (v = w.alloc (.cells #[.slice m.oT m.types.length m.cT, .slice m.oI m.imports.length m.cI, .slice oF m.funcs.length m.cF, .int .i64 m.table, .int .i64 m.pages, .int .i64 m.most, .slice m.oG m.globals.length m.cG, .slice m.oE m.exports.length m.cE, .int .i64 m.start, .slice m.oL m.elems.length m.cL, .slice m.oD m.data.length m.cD] 30)) := hv
 have HB1 : Hid (Below w.heap.size w v ∧ w.heap.size ≤ v.heap.size) := ⟨hb1, hb1.size⟩
 have HS : Hid (∀ W, Below v.heap.size v W → (W.cell? ⟨w.heap.size, 0, none⟩ = some (.slice m.oT m.types.length m.cT) ∧ W.cell? ⟨w.heap.size, 1, none⟩ = some (.slice m.oI m.imports.length m.cI) ∧ W.cell? ⟨w.heap.size, 2, none⟩ = some (.slice oF m.funcs.length m.cF) ∧ W.cell? ⟨w.heap.size, 3, none⟩ = some (.int .i64 m.table) ∧ W.cell? ⟨w.heap.size, 4, none⟩ = some (.int .i64 m.pages) ∧ W.cell? ⟨w.heap.size, 5, none⟩ = some (.int .i64 m.most) ∧ W.cell? ⟨w.heap.size, 6, none⟩ = some (.slice m.oG m.globals.length m.cG) ∧ W.cell? ⟨w.heap.size, 7, none⟩ = some (.slice m.oE m.exports.length m.cE) ∧ W.cell? ⟨w.heap.size, 8, none⟩ = some (.int .i64 m.start) ∧ W.cell? ⟨w.heap.size, 9, none⟩ = some (.slice m.oL m.elems.length m.cL) ∧ W.cell? ⟨w.heap.size, 10, none⟩ = some (.slice m.oD m.data.length m.cD))) := fun W b => by
  have a1 := (b.block w.heap.size (by omega)).trans nb
  exact ⟨cell_at a1 0 rfl, cell_at a1 1 rfl, cell_at a1 2 rfl, cell_at a1 3 rfl, cell_at a1 4 rfl, cell_at a1 5 rfl, cell_at a1 6 rfl, cell_at a1 7 rfl, cell_at a1 8 rfl, cell_at a1 9 rfl, cell_at a1 10 rfl⟩
 obtain ⟨f0, f1, f2, f3, f4, f5, f6, f7, f8, f9, f10⟩ := HS.out _ (Below.refl _ _)
 rw [hv] at f0 f1 f2 f3 f4 f5 f6 f7 f8 f9 f10
 clear hX hs hy hoF hvs hb1 nb hv hA hm hg
 go_enter Tryz.func7, Tryz.ntmps7
 go_wp2_with fail
 rw [← HV.out]
 refine (HSD.out _ HB1.out.1).mono ?_
 rintro r w1 ⟨rfl, b1⟩
 have HB2 : Hid (Below v.heap.size v w1 ∧ v.heap.size ≤ w1.heap.size) := ⟨b1, b1.size⟩
 clear b1 HSD f0 f1 f2 f3 f4 f5 f6 f7 f8 f9 f10
 go_wp2_with fail
 have nX := new_block w1 (.cells #[.int .u8 15, .int .i64 0, .int .i64 0, .slice none 0 0, .int .u8 11, .int .i64 0, .int .i64 0, .slice none 0 0] 53)
 have bX : Below w1.heap.size w1 (w1.alloc (.cells #[.int .u8 15, .int .i64 0, .int .i64 0, .slice none 0 0, .int .u8 11, .int .i64 0, .int .i64 0, .slice none 0 0] 53)) := (Below.refl _ _).alloc (Nat.le_refl _) _
 have hsX : w1.heap.size < (w1.alloc (.cells #[.int .u8 15, .int .i64 0, .int .i64 0, .slice none 0 0, .int .u8 11, .int .i64 0, .int .i64 0, .slice none 0 0] 53)).heap.size := by simp
 refine (vbare _ _ _ _).mono ?_
 rintro r w3 ⟨T, F, rfl, hT, hF, b3⟩
 have HOK : Hid ((ret2 w1.heap.size T F).ok w3) := ret2_ok ((b3.block _ hsX).trans nX) hT hF
 have HB3 : Hid (Below v.heap.size v w3 ∧ v.heap.size ≤ w3.heap.size) := by
  have h1 := HB2.out.1.trans (bX.mono HB2.out.2)
  have h2 := h1.trans (b3.mono h1.size)
  exact ⟨h2, h2.size⟩
 clear nX bX hsX hT hF b3
 go_wp2_with fail
 refine (HFB.out _ _ _ _ (HB1.out.1.trans (HB3.out.1.mono HB1.out.2)) HOK.out).mono ?_
 rintro r w4 ⟨g4, o4, c4, rfl, hc4, b4⟩
 have HB4 : Hid (Below v.heap.size v w4 ∧ v.heap.size ≤ w4.heap.size) := by
  have h2 := HB3.out.1.trans (b4.mono HB3.out.2)
  exact ⟨h2, h2.size⟩
 clear b4 HFB HOK
 cases is with
 | false =>
  go_wp2
  refine bodyPost_ret (results_tmp rfl _ _ _) rfl ?_
  exact ⟨rfl, HB1.out.1.trans (HB4.out.1.mono HB1.out.2)⟩
 | true =>
  obtain ⟨y1, y2, y3⟩ := HY.out rfl
  obtain ⟨hm, hA, hg⟩ := HM.out
  have hfw := fwell hm y2 y1
  rw [Int.toNat_natCast] at hfw
  obtain ⟨_, _, hj0, hj1, hn, hk1, hw, _, _⟩ := hfw
  have hjl : j < m.funcs.length := by omega
  have HFM : Hid (∀ W, Below w.heap.size w W → Calls Tryz.prog 17 #[.agg #[.slice m.oT m.types.length m.cT, .slice m.oI m.imports.length m.cI, .slice oF m.funcs.length m.cF, .int .i64 m.table, .int .i64 m.pages, .int .i64 m.most, .slice m.oG m.globals.length m.cG, .slice m.oE m.exports.length m.cE, .int .i64 m.start, .slice m.oL m.elems.length m.cL, .slice m.oD m.data.length m.cD], .int .i64 (j : Int)] W (FlatOut (m.funcs[j]!).b.length (flatV m j) W)) := fun W b => by
   have := fflat m j W (hm.below b) (hA.below b) (Nat.lt_of_lt_of_le hg b.size) y2 y1
   rw [HOF.out] at this
   exact this
  have hcm := hm.funcs.most
  have hcl := hm.funcs.le
  unfold maxLen at hcm
  obtain ⟨bb, ff, ho, hbN, hc⟩ := hm.funcs.cellAt (fun e => by rw [e] at hjl; exact absurd hjl (by simp))
  obtain rfl : oF = some ⟨bb, ff, none⟩ := by rw [← HOF.out]; exact ho
  have hmem : m.funcs[j]! ∈ m.funcs := by rw [getElem!_pos m.funcs j hjl]; exact List.getElem_mem hjl
  have hfo := hm.funcs.all _ hmem
  have HLK : Hid (∀ d ∈ (m.funcs[j]!).b, d.ok w) := hfo.2.2.1.1
  have HWF : Hid (∀ x ∈ flatV m j q, NoIn (m.funcs[j]!).b q x) := fun x hx => ways_nin hw hn w HLK.out q y3 x hx
  have HNC : Hid (nChk (m.funcs[j]!).b = 0) := hn
  have HCB : Hid (∀ W, Below w.heap.size w W → W.cell? ⟨bb, ff + j * 3 + 2, none⟩ = some (.slice (m.funcs[j]!).o (m.funcs[j]!).b.length (m.funcs[j]!).cap)) := fun W b => hc W b j hjl 2 (by omega)
  have hbl := hfo.2.2.2.1
  have hbm := hfo.2.2.2.2
  unfold maxLen at hbm
  have hn200 := (nChk_ok _ hn).1
  obtain ⟨body, hbd⟩ : ∃ x, (m.funcs[j]!).b = x := ⟨_, rfl⟩
  obtain ⟨bo, hbo⟩ : ∃ x, (m.funcs[j]!).o = x := ⟨_, rfl⟩
  obtain ⟨bc, hbc⟩ : ∃ x, (m.funcs[j]!).cap = x := ⟨_, rfl⟩
  have hLD := hfo.2.2.1
  rw [hbd, hbo] at hLD
  have hMT : ∀ W, Below w.heap.size w W → Calls Tryz.prog 19 #[.slice bo body.length bc] W fun r w' => ∃ gE gS cE cS, r = .returned (.tuple #[.slice (some ⟨gE, 0, none⟩) body.length cE, .slice (some ⟨gS, 0, none⟩) body.length cS, .int .i64 0]) ∧ QS W w' W.heap.size gE gS body.length cE cS bo bc (matchOf body).2.1 (matchOf body).2.2 := fun W b => by
   refine (rmatch_any bo bc body W (hLD.below b) (by rw [← hbd, ← hbc]; exact hbl) (HMX.out.below b)).mono ?_
   rintro r w' ⟨_, h | h⟩
   ·exact absurd (by rw [← hbd]; exact hn) h.1
   ·exact h.2
  have HMT : Hid (type_of% hMT) := hMT
  rw [hbd] at HFM HWF HCB HNC hn200 hbl y3
  rw [hbo, hbc] at HCB
  rw [hbc] at hbl hbm
  obtain ⟨bL, fL, rfl, hbL, hcL⟩ := hLD.2.resolve_left (fun e => by rw [e] at y3; exact absurd y3 (by simp))
  have HOP : Hid (∀ W, Below w.heap.size w W → ∀ i, i < body.length → W.cell? ⟨bL, fL + i * 4, none⟩ = some (.int .u8 (opAt body i))) := fun W b i hi => by
   rw [opAt_get body i hi]
   exact (b.cell (p := ⟨bL, fL + i * 4, none⟩) hbL).trans (hcL i hi).1
  obtain ⟨n, hnn⟩ : ∃ n, body.length = n := ⟨_, rfl⟩
  have HNN : Hid (type_of% hnn) := hnn
  rw [hnn] at HFM HCB HMT hn200 hbl y3 HOP
  obtain ⟨f0, f1, f2, f3, f4, f5, f6, f7, f8, f9, f10⟩ := HS.out _ HB4.out.1
  have hj00 : (0 : Int) ≤ (j : Int) := by omega
  have hq00 : (0 : Int) ≤ (q : Int) := by omega
  have hq1 : (q : Int) < (n : Int) := by omega
  have hjF : (j : Int) < (m.funcs.length : Int) := hj1
  clear y1 y2 hm hA hg hj0 hj1 hn hk1 hw ho hbN hc hmem hfo hbd hbo hbc hLD hMT hbL hcL hnn HY HM HLK
  go_wp2_with fail
  refine (HFM.out _ (HB1.out.1.trans (HB4.out.1.mono HB1.out.2))).mono ?_
  rintro r w5 ⟨g5, SP, rfl, s1, s2, s3, s4, b5⟩
  have hSQ : SP[q]! ∈ SP := by rw [getElem!_pos SP q (by omega)]; exact List.getElem_mem _
  have HSX : Hid ((SP[q]!).X = flatV m j q) := s2 q y3
  have hSO : SpotD.ok w5 (SP[q]!) := s4 _ hSQ
  have hSC : w5.cell? ⟨g5, q, none⟩ = some (SP[q]!).v := by
   rw [s3.cellAt q (by omega), List.getElem?_map, List.getElem?_eq_getElem (by omega), getElem!_pos SP q (by omega)]
   rfl
  have HG5 : Hid (g5 < w5.heap.size) := (s3.lt g5 rfl).2
  have HB5 : Hid (Below v.heap.size v w5 ∧ v.heap.size ≤ w5.heap.size) := by
   have h2 := HB4.out.1.trans (b5.mono HB4.out.2)
   exact ⟨h2, h2.size⟩
  rw [← HSX.out] at HWF
  generalize SP[q]! = sq at hSO hSC HWF
  obtain ⟨so, sc, X⟩ := sq
  have HSO : Hid (SpotD.ok w5 ⟨so, sc, X⟩) := hSO
  have HSC : Hid (w5.cell? ⟨g5, q, none⟩ = some (.slice so X.length sc)) := hSC
  have HWX : Hid (∀ x ∈ X, NoIn body q x) := HWF.out
  clear s1 s2 s3 s4 b5 hSQ HSX hSO hSC HWF HFM f0 f1 f2 f3 f4 f5 f6 f7 f8 f9 f10 hc4
  obtain ⟨f0, f1, f2, f3, f4, f5, f6, f7, f8, f9, f10⟩ := HS.out _ HB5.out.1
  have hcb := HCB.out _ (HB1.out.1.trans (HB5.out.1.mono HB1.out.2))
  go_wp2_with fail
  refine (HMT.out _ (HB1.out.1.trans (HB5.out.1.mono HB1.out.2))).mono ?_
  rintro r w6 ⟨gE, gS, cE, cS, rfl, hQS⟩
  have b6 := hQS.below
  have HB6 : Hid (Below v.heap.size v w6 ∧ v.heap.size ≤ w6.heap.size) := by
   have h2 := HB5.out.1.trans (b6.mono HB5.out.2)
   exact ⟨h2, h2.size⟩
  have hgE := (hQS.ends.lt gE rfl).2
  have HEC : Hid (∀ W, Below w6.heap.size w6 W → ∀ i, i < n → W.cell? ⟨gE, i, none⟩ = some (.int .i64 ((matchOf body).2.1.getD i 0))) := fun W b i hi => (b.cell (p := ⟨gE, i, none⟩) hgE).trans (hQS.cellE i hi).1
  have hcE : n ≤ cE ∧ cE ≤ 9223372036854775807 := by
   rcases hQS.ends.2 with ⟨h1, _⟩ | ⟨g', c, cur, h1, _, _, h2, h3, _⟩
   ·cases h1
   ·simp only [Value.slice.injEq] at h1
    unfold maxLen at h3
    omega
  have hc5 : w6.cell? ⟨g5, q, none⟩ = some (.slice so X.length sc) := (b6.cell (p := ⟨g5, q, none⟩) HG5.out).trans HSC.out
  have hXO : X = [] ∨ ∃ b f, so = some ⟨b, f, none⟩ ∧ ∀ W, Below w6.heap.size w6 W → ∀ i, i < X.length → W.cell? ⟨b, f + i * 3, none⟩ = some (.int .i64 (X[i]!).a) ∧ W.cell? ⟨b, f + i * 3 + 1, none⟩ = some (.int .i64 (X[i]!).k) ∧ W.cell? ⟨b, f + i * 3 + 2, none⟩ = some (.int .i64 (X[i]!).h) := by
   rcases HSO.out.at' with h0 | ⟨b, f, e, hb, hcl⟩
   ·exact Or.inl h0
   ·refine Or.inr ⟨b, f, e, fun W bW i hi => ?_⟩
    have h1 := b6.trans (bW.mono b6.size)
    have cl (r : Nat) (hr : r < 3) : W.cell? ⟨b, f + i * 3 + r, none⟩ = (X[i]!).cells[r]? := by
     rw [h1.cell (p := ⟨b, f + i * 3 + r, none⟩) hb, hcl i hi r hr, getElem!_pos X i hi]
    exact ⟨cl 0 (by omega), cl 1 (by omega), cl 2 (by omega)⟩
  have HXO : Hid (type_of% hXO) := hXO
  have hXm := HSO.out.most
  unfold maxLen at hXm
  have hXl : X.length ≤ sc := HSO.out.le
  have hXm : sc ≤ 9223372036854775807 := hXm
  clear f0 f1 f2 f3 f4 f5 f6 f7 f8 f9 f10 hcb hQS b6 hgE hXO HSO HSC HMT
  go_wp2_with fail
  clear hc5
  go_loopw [89] (fun iv wr => ∃ i : Nat, iv = .int .i64 (i : Int) ∧ i ≤ X.length ∧ Hid (Below w6.heap.size w6 wr)) (fun iv _ => X.length - (intOf iv).toNat)
  case atStart => exact ⟨0, rfl, by omega, Below.refl _ _⟩
  case round =>
   obtain ⟨i, rfl, hi, HBr⟩ := hrel
   by_cases hlt : i < X.length
   ·rcases HXO.out with h0 | ⟨b, f, rfl, hcl⟩
    ·exfalso; rw [h0] at hlt; simp at hlt
    obtain ⟨x0, x1, x2⟩ := hcl wr HBr.out i hlt
    have HNI : Hid (NoIn body q (X[i]!)) := HWX.out (X[i]!) (by rw [getElem!_pos X i hlt]; exact List.getElem_mem hlt)
    generalize X[i]! = xj at *
    obtain ⟨xa, xk, xh⟩ := xj
    dsimp only at x0 x1 x2
    have hki0 : (0 : Int) ≤ (i : Int) := by omega
    have hki1 : (i : Int) < (X.length : Int) := by omega
    obtain ⟨v2, hv2⟩ : ∃ x, x = wr.alloc (.cells #[.int .i64 xa, .int .i64 xk, .int .i64 xh] 61) := ⟨_, rfl⟩
    have b2 : Below wr.heap.size wr v2 := by rw [hv2]; exact (Below.refl _ _).alloc (Nat.le_refl _) _
    have n2 : v2.heap[wr.heap.size]? = some (.cells #[.int .i64 xa, .int .i64 xk, .int .i64 xh] 61 (0, 0)) := by rw [hv2]; exact new_block wr _
    have HB7 : Hid (Below w6.heap.size w6 v2) := HBr.out.trans (b2.mono HBr.out.size)
    have HBW : Hid (Below w.heap.size w v2) := (HB1.out.1.trans (HB6.out.1.mono HB1.out.2)).trans (HB7.out.mono (Nat.le_trans HB1.out.2 HB6.out.2))
    have y0 := cell_at n2 0 rfl
    obtain ⟨_, _, m2, _⟩ := HS.out v2 (HB6.out.1.trans (HB7.out.mono HB6.out.2))
    have mB := HCB.out v2 HBW.out
    have HV2 : Hid (type_of% hv2) := hv2
    clear b2 n2 hcl
    go_wp2_with fail
    go_loopw [95] (fun iv wx => ∃ b : Nat, iv = .int .i64 (b : Int) ∧ b ≤ n ∧ wx = v2) (fun iv _ => n - (intOf iv).toNat)
    case atStart => exact ⟨0, rfl, by omega, HV2.out.symm⟩
    case round =>
     obtain ⟨e, rfl, he, hwx⟩ := hrel
     subst hwx
     clear x0 x1 x2
     by_cases hen : e < n
     ·have hei0 : (0 : Int) ≤ (e : Int) := by omega
      have hei1 : (e : Int) < (n : Int) := by omega
      have k0 := HEC.out _ HB7.out e hen
      have k1 := HOP.out _ HBW.out e hen
      rw [HV2.out] at k0 k1 m2 mB y0
      have HQ : Hid (isO (opAt body e) → (e : Int) < xa → xa ≤ (matchOf body).2.1.getD e 0 → ¬ (q : Int) < (e : Int) ∧ ¬ (matchOf body).2.1.getD e 0 < (q : Int)) := fun a b c => nin_no HNC.out q ⟨xa, xk, xh⟩ HNI.out e (by rw [HNN.out]; exact hen) a b c
      generalize (matchOf body).2.1.getD e 0 = en at *
      generalize opAt body e = op at *
      by_cases c2 : op < 2
      ·have d1 : decide (op < 2) = true := decide_eq_true c2
       clear HQ
       go_wp2
       go_roundw
       case rel => exact ⟨e + 1, by go_num, by omega, by first | rfl | exact HV2.out.symm⟩
       case measure => simp [intOf]; omega
      have d1 : decide (op < 2) = false := decide_eq_false c2
      by_cases c4 : 4 < op
      ·have d2 : decide (4 < op) = true := decide_eq_true c4
       clear HQ
       go_wp2
       go_roundw
       case rel => exact ⟨e + 1, by go_num, by omega, by first | rfl | exact HV2.out.symm⟩
       case measure => simp [intOf]; omega
      have d2 : decide (4 < op) = false := decide_eq_false c4
      have HO : Hid ((e : Int) < xa → xa ≤ en → ¬ (q : Int) < (e : Int) ∧ ¬ en < (q : Int)) := HQ.out (by unfold isO; omega)
      clear HQ
      by_cases h1 : (e : Int) < xa
      ·have d3 : decide ((e : Int) < xa) = true := decide_eq_true h1
       by_cases h2 : xa ≤ en
       ·have d4 : decide (xa ≤ en) = true := decide_eq_true h2
        obtain ⟨h3, h4⟩ := HO.out h1 h2
        have d5 : decide ((q : Int) < (e : Int)) = false := decide_eq_false h3
        have d6 : decide (en < (q : Int)) = false := decide_eq_false h4
        clear HO
        go_wp2
        go_roundw
        case rel => exact ⟨e + 1, by go_num, by omega, by first | rfl | exact HV2.out.symm⟩
        case measure => simp [intOf]; omega
       ·have d4 : decide (xa ≤ en) = false := decide_eq_false h2
        clear HO
        go_wp2
        go_roundw
        case rel => exact ⟨e + 1, by go_num, by omega, by first | rfl | exact HV2.out.symm⟩
        case measure => simp [intOf]; omega
      ·have d3 : decide ((e : Int) < xa) = false := decide_eq_false h1
       clear HO
       go_wp2
       go_roundw
       case rel => exact ⟨e + 1, by go_num, by omega, by first | rfl | exact HV2.out.symm⟩
       case measure => simp [intOf]; omega
     ·go_wp2
      go_roundw
      case rel => exact ⟨i + 1, by go_num, by omega, by first | exact HB7 | (rw [← HV2.out]; exact HB7)⟩
      case measure => simp [intOf]; omega
   ·go_wp2
    refine bodyPost_ret (results_tmp rfl _ _ _) rfl ?_
    exact ⟨rfl, (HB1.out.1.trans (HB6.out.1.mono HB1.out.2)).trans (HBr.out.mono (Nat.le_trans HB1.out.2 HB6.out.2))⟩
end Go.Proofs.YtlfihndbnaaodaaGreatDoor
