/-
 The program's own effect of a call.
 What going past an instruction does, as a reckoning; the program's own effect, whole.
 The program's own pass.
-/
import Derived.Test.YtlfihndbnaaodaaGreatDoorIVI
import Derived.Test.YtlfihndbnaaodaaGreatDoorIVO
import Derived.Deep.RegionWith
set_option maxHeartbeats 4000000
set_option maxRecDepth 1000000
namespace Go.Proofs.YtlfihndbnaaodaaGreatDoor
open Go.RowKit
set_option linter.unusedVariables false
theorem vtypeOf (m : ModD) (w : World) (hm : m.ok w) (h0 : mChk m = 0) (h2 : typD m = 0) (k : Int) (hk0 : 0 ≤ k) (hk1 : k < (m.imports.length : Int) + (m.funcs.length : Int)) :
  Calls Tryz.prog 74 #[.agg (mcA m), .int .i64 k] w fun r w' => r = .returned (.agg #[(sigAt m.types m.imports m.funcs k.toNat).i.v, (sigAt m.types m.imports m.funcs k.toNat).r.v]) ∧ Below w.heap.size w w' := by
 have g := fair_of hm h0
 have p := typD_parts h2
 have gi := g.nI
 have gf := g.nF
 have hI : ∀ i, i < m.imports.length → 0 ≤ (m.imports[i]!).n ∧ (m.imports[i]!).n < (m.types.length : Int) := bang (p := fun d : NamD => 0 ≤ d.n ∧ d.n < (m.types.length : Int)) fun d hd => ⟨g.im d hd, p.1 d hd⟩
 have hF : ∀ i, i < m.funcs.length → 0 ≤ (m.funcs[i]!).t ∧ (m.funcs[i]!).t < (m.types.length : Int) := bang (p := fun d : FunD => 0 ≤ d.t ∧ d.t < (m.types.length : Int)) fun d hd => ⟨g.fu d hd, p.2 d hd⟩
 unfold sigAt
 by_cases hk : k < (m.imports.length : Int)
 ·rw [if_pos (by omega)]
  exact type_ofI _ _ _ _ _ _ _ _ _ _ _ _ _ _ _ _ _ _ _ _ _ _ _ _ _ w m.types hm.types rfl m.imports hm.imports rfl g.nI k hk0 (by omega) k rfl hk0 hk (decide_eq_true hk) (hI _ (by omega)).1 (hI _ (by omega)).2 _ rfl
 ·rw [if_neg (by omega)]
  have e : k.toNat - m.imports.length = (k - (m.imports.length : Int)).toNat := by omega
  rw [e]
  exact type_ofF _ _ _ _ _ _ _ _ _ _ _ _ _ _ _ _ _ _ _ _ _ _ _ _ _ w m.types hm.types rfl m.funcs hm.funcs rfl g.nI k hk0 (by omega) (k - (m.imports.length : Int)) rfl (by omega) (by omega) (decide_eq_false hk) (by omega) (hF _ (by omega)).1 (hF _ (by omega)).2 _ rfl
theorem eff_16 (N P : Nat) (m : ModD) (L : NumD) (so : Option Addr) (sc : Nat) (oo : Option Addr) (oc : Nat) (st : List Int) (ops : List BlkD) (bad : Bool) (a b : Int) (xo : Option Addr) (n cap : Nat) (xs : List Int) (w : World) (h : TK w N P (trkM m L) so sc oo oc st ops bad) (w0 : World) (hw0 : w0.heap.size ≤ N) (hb0 : Below w0.heap.size w0 w) (hm : m.ok w0) (hc0 : mChk m = 0) (hc2 : typD m = 0) (ha0 : 0 ≤ a) (ha1 : a < (m.imports.length : Int) + (m.funcs.length : Int)) :
  Calls Tryz.prog 93 #[.pointer (some ⟨P, 0, none⟩), .agg #[.int .u8 16, .int .i64 a, .int .i64 b, .slice xo n cap]] w fun r w' => ∃ d1 d2 : NumD, r = .returned (.tuple #[.slice d1.o d1.n d1.cap, .slice d2.o d2.n d2.cap]) ∧ EffN P so oo w' d1 ((sigAt m.types m.imports m.funcs a.toNat).i.xs) ∧ EffN P so oo w' d2 ((sigAt m.types m.imports m.funcs a.toNat).r.xs) ∧ Below w.heap.size w w' := by
 have hb1 : Below w.heap.size w (w.alloc (.cells #[.int .u8 16, .int .i64 a, .int .i64 b, .slice xo n cap] 53)) := (Below.refl _ _).alloc (Nat.le_refl _) _
 have HB1 : Hid (type_of% hb1) := hb1
 have HT : Hid (type_of% h) := h
 have g := fair_of hm hc0
 have hmem := sigAt_mem hm hc0 hc2 a.toNat (by omega)
 have hso := hm.types.all _ hmem
 have hsm := g.ty _ hmem
 have HTY : Hid (∀ w', Below w.heap.size w w' → Calls Tryz.prog 74 #[.agg (mcA m), .int .i64 a] w' fun r w'' => r = .returned (.agg #[(sigAt m.types m.imports m.funcs a.toNat).i.v, (sigAt m.types m.imports m.funcs a.toNat).r.v]) ∧ Below w'.heap.size w' w'') := fun w' bz => vtypeOf m w' (hm.below (hb0.trans (bz.mono hb0.size))) hc0 hc2 a ha0 ha1
 generalize sigAt m.types m.imports m.funcs a.toNat = d at *
 have HI : Hid (EffN P so oo w d.i d.i.xs) := EffN.low h hw0 hb0 hso.1 (by omega)
 have HR : Hid (EffN P so oo w d.r d.r.xs) := EffN.low h hw0 hb0 hso.2 (by omega)
 obtain ⟨⟨io, iN, ic, ix⟩, ⟨ro, rN, rc, rx⟩⟩ := d
 have HTZ : Hid (∀ w', Below w.heap.size w w' → Calls Tryz.prog 74 #[.agg #[.slice m.oT m.types.length m.cT, .slice m.oI m.imports.length m.cI, .slice m.oF m.funcs.length m.cF, .int .i64 m.table, .int .i64 m.pages, .int .i64 m.most, .slice m.oG m.globals.length m.cG, .slice m.oE m.exports.length m.cE, .int .i64 m.start, .slice m.oL m.elems.length m.cL, .slice m.oD m.data.length m.cD], .int .i64 a] w' fun r w'' => r = .returned (.agg #[.slice io iN ic, .slice ro rN rc]) ∧ Below w'.heap.size w' w'') := HTY.out
 have hq := new_block w (.cells #[.int .u8 16, .int .i64 a, .int .i64 b, .slice xo n cap] 53)
 have HS : Hid (∀ w', Below (w.alloc (.cells #[.int .u8 16, .int .i64 a, .int .i64 b, .slice xo n cap] 53)).heap.size (w.alloc (.cells #[.int .u8 16, .int .i64 a, .int .i64 b, .slice xo n cap] 53)) w' → w'.cell? ⟨w.heap.size, 1, none⟩ = some (.int .i64 a) ∧ w'.cell? ⟨P, 0, none⟩ = some (.slice m.oT m.types.length m.cT) ∧ w'.cell? ⟨P, 1, none⟩ = some (.slice m.oI m.imports.length m.cI) ∧ w'.cell? ⟨P, 2, none⟩ = some (.slice m.oF m.funcs.length m.cF) ∧ w'.cell? ⟨P, 3, none⟩ = some (.int .i64 m.table) ∧ w'.cell? ⟨P, 4, none⟩ = some (.int .i64 m.pages) ∧ w'.cell? ⟨P, 5, none⟩ = some (.int .i64 m.most) ∧ w'.cell? ⟨P, 6, none⟩ = some (.slice m.oG m.globals.length m.cG) ∧ w'.cell? ⟨P, 7, none⟩ = some (.slice m.oE m.exports.length m.cE) ∧ w'.cell? ⟨P, 8, none⟩ = some (.int .i64 m.start) ∧ w'.cell? ⟨P, 9, none⟩ = some (.slice m.oL m.elems.length m.cL) ∧ w'.cell? ⟨P, 10, none⟩ = some (.slice m.oD m.data.length m.cD)) := fun w' bz => by
  have hk : w'.heap[w.heap.size]? = some (.cells #[.int .u8 16, .int .i64 a, .int .i64 b, .slice xo n cap] 53 (0, 0)) := (bz.block _ (by simp)).trans hq
  have hh := (h.below (hb1.trans (bz.mono hb1.size))).k
  exact ⟨cell_at hk 1 rfl, hh 0 (by omega), hh 1 (by omega), hh 2 (by omega), hh 3 (by omega), hh 4 (by omega), hh 5 (by omega), hh 6 (by omega), hh 7 (by omega), hh 8 (by omega), hh 9 (by omega), hh 10 (by omega)⟩
 obtain ⟨v, hv⟩ : ∃ v, v = (w.alloc (.cells #[.int .u8 16, .int .i64 a, .int .i64 b, .slice xo n cap] 53)) := ⟨_, rfl⟩
 have HV : Hid (v = (w.alloc (.cells #[.int .u8 16, .int .i64 a, .int .i64 b, .slice xo n cap] 53))) := hv
 have hvs : v.heap.size = w.heap.size + 1 := by rw [hv]; simp
 rw [← hv] at HS HB1
 have HSv := HS.out v (Below.refl _ _)
 have HVS : Hid (v.heap.size = w.heap.size + 1 ∧ w.heap.size ≤ v.heap.size) := ⟨hvs, by omega⟩
 obtain ⟨f1, r0, r1, r2, r3, r4, r5, r6, r7, r8, r9, r10⟩ := HSv
 have hb2 : Below v.heap.size v (v.alloc (.cells #[.slice none 0 0, .slice none 0 0] 83)) := (Below.refl _ _).alloc (Nat.le_refl _) _
 obtain ⟨g1, s0, s1, s2, s3, s4, s5, s6, s7, s8, s9, s10⟩ := HS.out _ hb2
 rw [hv] at f1 r0 r1 r2 r3 r4 r5 r6 r7 r8 r9 r10 g1 s0 s1 s2 s3 s4 s5 s6 s7 s8 s9 s10
 have HF : Hid (True) := trivial
 clear h hb1 hq hv hb0 hm hw0 hso hsm hmem g HTY hc0 hc2 hb2 hvs
 go_enter Tryz.func93, Tryz.ntmps93
 go_wp2
 rw [← HV.out]
 go_region_held3 (fun w' => w'.cell? ⟨w.heap.size, 1, none⟩ = some (.int .i64 a) ∧ w'.cell? ⟨P, 0, none⟩ = some (.slice m.oT m.types.length m.cT) ∧ w'.cell? ⟨P, 1, none⟩ = some (.slice m.oI m.imports.length m.cI) ∧ w'.cell? ⟨P, 2, none⟩ = some (.slice m.oF m.funcs.length m.cF) ∧ w'.cell? ⟨P, 3, none⟩ = some (.int .i64 m.table) ∧ w'.cell? ⟨P, 4, none⟩ = some (.int .i64 m.pages) ∧ w'.cell? ⟨P, 5, none⟩ = some (.int .i64 m.most) ∧ w'.cell? ⟨P, 6, none⟩ = some (.slice m.oG m.globals.length m.cG) ∧ w'.cell? ⟨P, 7, none⟩ = some (.slice m.oE m.exports.length m.cE) ∧ w'.cell? ⟨P, 8, none⟩ = some (.int .i64 m.start) ∧ w'.cell? ⟨P, 9, none⟩ = some (.slice m.oL m.elems.length m.cL) ∧ w'.cell? ⟨P, 10, none⟩ = some (.slice m.oD m.data.length m.cD))
  (first | exact HS.out _ (HA1.out.trans (((Chg.set v.heap.size 0 w1 _).trans (Chg.set v.heap.size 1 _ _)).below (Nat.le_refl _) hs1)) | exact HS.out _ bch | go_keep)
  ((go_at_call 74; (fail_if_success (have := HT1)); refine (HTZ.out _ (HB1.out.trans ((bch : Below v.heap.size v _).mono HVS.out.2))).mono ?_; rintro r w1 ⟨rfl, b1⟩; have HT1 : Hid True := trivial; have HA1 : Hid (Below v.heap.size v w1) := (by (refine Below.trans ?_ (b1.mono ?_) <;> first | exact bch | exact bcl)); have hs1 : v.heap.size ≤ w1.heap.size := HA1.out.size; (try (have hz : w1.heap[v.heap.size]? = some (.cells #[.slice none 0 0, .slice none 0 0] 83 (0, 0)) := (b1.block v.heap.size (by simp)).trans (new_block v _); have z0 := cell_at hz 0 rfl; have z1 := cell_at hz 1 rfl; have zf0 : w1.frozen? ⟨v.heap.size, 0, none⟩ = false := (by simp [World.frozen?, hz]); have zf1 : w1.frozen? ⟨v.heap.size, 1, none⟩ = false := (by simp [World.frozen?, hz]))); clear b1))
 ·have hb9 : Below v.heap.size v (w1.alloc (.cells #[.slice io iN ic, .slice ro rN rc] 83)) := HA1.out.alloc hs1 _
  have hz := new_block w1 (.cells #[.slice io iN ic, .slice ro rN rc] 83)
  have HBF : Hid (Below w.heap.size w (w1.alloc (.cells #[.slice io iN ic, .slice ro rN rc] 83))) := HB1.out.trans (hb9.mono HVS.out.2)
  generalize w1.alloc (.cells #[.slice io iN ic, .slice ro rN rc] 83) = w2 at *
  have y0 := cell_at hz 0 rfl
  have y1 := cell_at hz 1 rfl
  clear hz hb9 hs1
  go_wp2
  go_quiet (fail)
  go_wp2
  refine bodyPost_ret (results_tmp2 rfl _ _ _) rfl ?_
  have HBG : Hid (Below w.heap.size w (w2.drewN nq)) := below_drewN HBF.out _
  exact ⟨⟨io, iN, ic, ix⟩, ⟨ro, rN, rc, rx⟩, rfl, HI.out.below HBG.out, HR.out.below HBG.out, HBG.out⟩
 ·have hc9 := (Chg.set v.heap.size 0 w1 (.slice io iN ic)).trans (Chg.set v.heap.size 1 _ (.slice ro rN rc))
  have hb9 := HA1.out.trans (hc9.below (Nat.le_refl _) hs1)
  have HBF : Hid (type_of% (HB1.out.trans (hb9.mono HVS.out.2))) := HB1.out.trans (hb9.mono HVS.out.2)
  have hz2 : ((w1.setCell ⟨v.heap.size, 0, none⟩ (.slice io iN ic)).setCell ⟨v.heap.size, 1, none⟩ (.slice ro rN rc)).heap[v.heap.size]? = some (.cells #[.slice io iN ic, .slice ro rN rc] 83 (0, 0)) := by
   simp [World.setCell, Array.getElem?_modify, hz]
  clear hc9 hb9 z0 z1 zf0 zf1 hz
  generalize (w1.setCell ⟨v.heap.size, 0, none⟩ (.slice io iN ic)).setCell ⟨v.heap.size, 1, none⟩ (.slice ro rN rc) = w2 at *
  have y0 := cell_at hz2 0 rfl
  have y1 := cell_at hz2 1 rfl
  clear hz2 hs1
  go_wp2
  go_quiet (fail)
  go_wp2
  refine bodyPost_ret (results_tmp2 rfl _ _ _) rfl ?_
  have HBG : Hid (Below w.heap.size w (w2.drewN nq)) := below_drewN HBF.out _
  exact ⟨⟨io, iN, ic, ix⟩, ⟨ro, rN, rc, rx⟩, rfl, HI.out.below HBG.out, HR.out.below HBG.out, HBG.out⟩
end Go.Proofs.YtlfihndbnaaodaaGreatDoor
namespace Go.Proofs.YtlfihndbnaaodaaGreatDoor
open Go.RowKit
set_option linter.unusedVariables false
structure BlkV where
 op : Int
 ks : List Int
 base : Nat
 dead : Bool
def BlkD.val (b : BlkD) : BlkV := ⟨b.op, b.ks.xs, b.base, b.dead⟩
def BlkV.along (b : BlkV) : List Int := if b.op = 3 then [] else b.ks
theorem along_val (b : BlkD) : b.along.xs = b.val.along := by
 unfold BlkD.along BlkV.along BlkD.val
 split <;> rfl
def takeV (k : Int) (st : List Int) (b : BlkV) (bad : Bool) : Int × List Int × Bool :=
 if st.length ≤ b.base then (k, st, bad || !b.dead) else
 (if k = 0 then st.getLastD 0 else k, st.dropLast, if k = 0 then bad else bad || !(st.getLastD 0 == k || st.getLastD 0 == 0))
theorem takeK_val (k : Int) (st : List Int) (b : BlkD) (bad : Bool) : takeK k st b bad = takeV k st b.val bad := rfl
def tksV (b : BlkV) (l : List Int) (s : List Int × Bool) : List Int × Bool := l.foldl (fun s k => ((takeV k s.1 b s.2).2.1, (takeV k s.1 b s.2).2.2)) s
theorem tks_val (b : BlkD) (l : List Int) (s : List Int × Bool) : tks b l s = tksV b.val l s := rfl
def finV (st : List Int) (b : BlkV) (bad : Bool) : List Int × Bool := ((tksV b b.ks.reverse (st, bad)).1, (tksV b b.ks.reverse (st, bad)).2 || !((((tksV b b.ks.reverse (st, bad)).1.length : Nat) : Int) == (b.base : Int)))
theorem finK_val (st : List Int) (b : BlkD) (bad : Bool) : finK st b bad = finV st b.val bad := rfl
def chooseV (st : List Int) (b : BlkV) (bad : Bool) : List Int × Bool :=
 let r1 := takeV 127 st b bad
 let r2 := takeV 0 r1.2.1 b r1.2.2
 let r3 := takeV r2.1 r2.2.1 b r2.2.2
 (r3.2.1 ++ [r3.1], r3.2.2)
theorem chooseK_val (st : List Int) (b : BlkD) (bad : Bool) : chooseK st b bad = chooseV st b.val bad := rfl
def alV (ops : List BlkV) (f : Int) : List Int := ((ops[ops.length - 1 - f.toNat]?).map BlkV.along).getD []
theorem alAt_val (ops : List BlkD) (f : Int) : alAt ops f = alV (ops.map BlkD.val) f := by
 unfold alAt alV
 rw [List.length_map, List.getElem?_map, Option.map_map]
 congr 2
 funext b
 exact along_val b
def effV (m : ModD) (loc : List Int) (ops : List BlkV) (op a : Int) : List Int × List Int :=
 if op = 4 then ([127], [])
 else if op = 12 then (alV ops a, [])
 else if op = 13 then (alV ops a ++ [127], alV ops a)
 else if op = 14 then (alV ops a ++ [127], [])
 else if op = 15 then (((ops[0]?).map BlkV.along).getD [], [])
 else if op = 16 then ((sigAt m.types m.imports m.funcs a.toNat).i.xs, (sigAt m.types m.imports m.funcs a.toNat).r.xs)
 else if op = 17 then (((m.types[a.toNat]?).map fun s => s.i.xs ++ [127]).getD [], ((m.types[a.toNat]?).map fun s => s.r.xs).getD [])
 else if op = 32 ∨ op = 33 ∨ op = 34 then (((loc[a.toNat]?).map fun k => onT k op).getD [], ((loc[a.toNat]?).map fun k => onG k op).getD [])
 else if op = 35 ∨ op = 36 then (((m.globals[a.toNat]?).map fun d => onT d.k op).getD [], ((m.globals[a.toNat]?).map fun d => onG d.k op).getD [])
 else (pIn op, pOut op)
theorem eff_any (op : Int) (N P : Nat) (m : ModD) (L : NumD) (so : Option Addr) (sc : Nat) (oo : Option Addr) (oc : Nat) (st : List Int) (ops : List BlkD) (bad : Bool) (a b : Int) (xo : Option Addr) (n cap : Nat) (xs : List Int) (w : World) (h : TK w N P (trkM m L) so sc oo oc st ops bad) (w0 : World) (hw0 : w0.heap.size ≤ N) (hb0 : Below w0.heap.size w0 w) (hm : m.ok w0) (hc0 : mChk m = 0) (hc2 : typD m = 0) (hL : L.ok .u8 w) (hLk : ∀ x ∈ L.xs, 0 ≤ x ∧ x ≤ 255) (hks : ∀ b ∈ ops, b.ks.n ≤ 10) (hno : 0 < ops.length) (ho0 : 0 ≤ op) (ho1 : op ≤ 255) (hTab : TabIn w) (hg : 1 < w.heap.size) (ha0 : op ≤ 36 → 0 ≤ a) (ht : thereK m L.n ops.length op a xs = true) :
  Calls Tryz.prog 93 #[.pointer (some ⟨P, 0, none⟩), .agg #[.int .u8 op, .int .i64 a, .int .i64 b, .slice xo n cap]] w fun r w' => ∃ d1 d2 : NumD, r = .returned (.tuple #[.slice d1.o d1.n d1.cap, .slice d2.o d2.n d2.cap]) ∧ EffN P so oo w' d1 ((effV m L.xs (ops.map BlkD.val) op a).1) ∧ EffN P so oo w' d2 ((effV m L.xs (ops.map BlkD.val) op a).2) ∧ Below w.heap.size w w' := by
 have g := fair_of hm hc0
 unfold effV
 by_cases c4 : op = 4
 ·rw [if_pos c4]; subst c4; exact eff_4 N P m L so sc oo oc st ops bad a b xo n cap xs w h
 rw [if_neg c4]
 have way : op = 12 ∨ op = 13 ∨ op = 14 → a < (ops.length : Int) := fun h => by
  unfold thereK at ht
  rw [if_pos h, Bool.and_eq_true] at ht
  exact of_decide_eq_true ht.1
 by_cases c12 : op = 12
 ·rw [if_pos c12]
  have := eff_12 N P m L so sc oo oc st ops bad a b xo n cap xs w h hks (ha0 (by omega)) (way (Or.inl c12))
  rw [alAt_val] at this
  rw [c12]; exact this
 rw [if_neg c12]
 by_cases c13 : op = 13
 ·rw [if_pos c13]
  have := eff_13 N P m L so sc oo oc st ops bad a b xo n cap xs w h hks (ha0 (by omega)) (way (Or.inr (Or.inl c13)))
  rw [alAt_val] at this
  rw [c13]; exact this
 rw [if_neg c13]
 by_cases c14 : op = 14
 ·rw [if_pos c14]
  have := eff_14 N P m L so sc oo oc st ops bad a b xo n cap xs w h hks (ha0 (by omega)) (way (Or.inr (Or.inr c14)))
  rw [alAt_val] at this
  rw [c14]; exact this
 rw [if_neg c14]
 by_cases c15 : op = 15
 ·rw [if_pos c15]
  have := eff_15 N P m L so sc oo oc st ops bad a b xo n cap xs w h hks hno
  have e : ((ops[0]?).map fun b => b.along.xs).getD [] = (((ops.map BlkD.val)[0]?).map BlkV.along).getD [] := by
   rw [List.getElem?_map, Option.map_map]
   congr 2
   funext b
   exact along_val b
  rw [e] at this
  rw [c15]; exact this
 rw [if_neg c15]
 by_cases c16 : op = 16
 ·rw [if_pos c16]
  subst c16
  exact eff_16 N P m L so sc oo oc st ops bad a b xo n cap xs w h w0 hw0 hb0 hm hc0 hc2 (ha0 (by omega)) (of_decide_eq_true ht)
 rw [if_neg c16]
 by_cases c17 : op = 17
 ·rw [if_pos c17]
  subst c17
  have ht2 : (decide (0 < m.table) && decide (a < (m.types.length : Int))) = true := ht
  rw [Bool.and_eq_true] at ht2
  exact eff_17 N P m L so sc oo oc st ops bad a b xo n cap xs w h w0 hw0 hb0 hm (ha0 (by omega)) (of_decide_eq_true ht2.2) g.ty
 rw [if_neg c17]
 by_cases c32 : op = 32 ∨ op = 33 ∨ op = 34
 ·rw [if_pos c32]
  exact eff_loc op c32 N P m L so sc oo oc st ops bad a b xo n cap xs w h hL hLk (ha0 (by omega)) (of_decide_eq_true (by rcases c32 with rfl | rfl | rfl <;> exact ht))
 rw [if_neg c32]
 by_cases c35 : op = 35 ∨ op = 36
 ·rw [if_pos c35]
  exact eff_glo op c35 N P m L so sc oo oc st ops bad a b xo n cap xs w h w0 hw0 hb0 hm (ha0 (by omega)) (of_decide_eq_true (by rcases c35 with rfl | rfl <;> exact ht))
 rw [if_neg c35]
 exact eff_other op N P m L so sc oo oc st ops bad a b xo n cap xs w h ho0 ho1 hTab hg (by omega)
end Go.Proofs.YtlfihndbnaaodaaGreatDoor
namespace Go.Proofs.YtlfihndbnaaodaaGreatDoor
open Go.RowKit
set_option linter.unusedVariables false
structure TrkV where
 st : List Int
 ops : List BlkV
 bad : Bool
def pass1 (m : ModD) (loc : List Int) (st : List Int) (pre : List BlkV) (b : BlkV) (bad : Bool) (op a : Int) : TrkV :=
 if op = 26 then ⟨(takeV 0 st b bad).2.1, pre ++ [b], (takeV 0 st b bad).2.2⟩
 else if op = 27 then ⟨(chooseV st b bad).1, pre ++ [b], (chooseV st b bad).2⟩
 else if op = 5 then ⟨(finV st b bad).1, pre ++ [{ b with op := 5, dead := false }], (finV st b bad).2⟩
 else if op = 11 then ⟨(finV st b bad).1 ++ b.ks, pre, (finV st b bad).2 || !(if b.op = 4 then ((b.ks.length : Int) == 0) else true)⟩
 else ⟨(tksV b (effV m loc (pre ++ [b]) op a).1.reverse (st, bad)).1 ++ (effV m loc (pre ++ [b]) op a).2, pre ++ [b], (tksV b (effV m loc (pre ++ [b]) op a).1.reverse (st, bad)).2⟩
def passV (m : ModD) (loc : List Int) (st : List Int) (pre : List BlkV) (b : BlkV) (bad : Bool) (op a : Int) : TrkV :=
 if op = 2 ∨ op = 3 ∨ op = 4 then ⟨(pass1 m loc st pre b bad op a).st, (pass1 m loc st pre b bad op a).ops ++ [⟨op, ksOf a, (pass1 m loc st pre b bad op a).st.length, false⟩], (pass1 m loc st pre b bad op a).bad⟩
 else if op = 0 ∨ op = 12 ∨ op = 14 ∨ op = 15 then ⟨(pass1 m loc st pre b bad op a).st.take b.base, pre ++ [{ b with dead := true }], (pass1 m loc st pre b bad op a).bad⟩
 else pass1 m loc st pre b bad op a
def offB (G : Nat) (d : NumD) : Prop := d.n = 0 ∨ ∃ a : Addr, d.o = some a ∧ a.block ≠ G
def KeepB (w : World) (ops0 ops' : List BlkD) : Prop := ∀ G, G < w.heap.size → (∀ b ∈ ops0, offB G b.ks) → ∀ b ∈ ops', offB G b.ks
def PassOut (N P : Nat) (M : Nat → Value) (so oo : Option Addr) (w : World) (ops0 : List BlkD) (T : TrkV) (r : Ending) (w' : World) : Prop :=
 r = .returned (.tuple #[]) ∧ ∃ (so' : Option Addr) (sc' : Nat) (oo' : Option Addr) (oc' : Nat) (ops' : List BlkD), TK w' N P M so' sc' oo' oc' T.st ops' T.bad ∧ TF P so oo w so' oo' w' ∧ ops'.map BlkD.val = T.ops ∧ (∀ b ∈ ops', b.ks.n ≤ 10) ∧ KeepB w ops0 ops'
theorem takeV_base {k : Int} {st : List Int} {b : BlkV} {bad : Bool} (h : b.base ≤ st.length) : b.base ≤ (takeV k st b bad).2.1.length ∧ (takeV k st b bad).2.1.length ≤ st.length := by
 unfold takeV
 split
 ·exact ⟨h, Nat.le_refl _⟩
 ·simp only [List.length_dropLast]
  omega
theorem tksV_base {b : BlkV} (l : List Int) : ∀ {s : List Int × Bool}, b.base ≤ s.1.length → b.base ≤ (tksV b l s).1.length ∧ (tksV b l s).1.length ≤ s.1.length := by
 induction l with
 | nil => intro s h; exact ⟨h, Nat.le_refl _⟩
 | cons k l ih =>
  intro s h
  have h1 := takeV_base (k := k) (bad := s.2) h
  have h2 := ih (s := ((takeV k s.1 b s.2).2.1, (takeV k s.1 b s.2).2.2)) h1.1
  exact ⟨h2.1, Nat.le_trans h2.2 h1.2⟩
theorem pass_26 (N P : Nat) (m : ModD) (L : NumD) (so : Option Addr) (sc : Nat) (g oc : Nat) (st : List Int) (ops : List BlkD) (bl : BlkD) (bad : Bool) (a b : Int) (xo : Option Addr) (n cap : Nat) (xs : List Int) (w : World) (h : TK w N P (trkM m L) so sc (some ⟨g, 0, none⟩) oc st (ops ++ [bl]) bad) (hs : st.length ≤ 1099511610000) (hbs : bl.base ≤ st.length) (hks : ∀ b ∈ ops ++ [bl], b.ks.n ≤ 10) (hno : ops.length ≤ 900) : Calls Tryz.prog 54 #[.pointer (some ⟨P, 0, none⟩), .agg #[.int .u8 26, .int .i64 a, .int .i64 b, .slice xo n cap]] w (PassOut N P (trkM m L) so (some ⟨g, 0, none⟩) w (ops ++ [bl]) (⟨(takeV 0 st bl.val bad).2.1, ops.map BlkD.val ++ [bl.val], (takeV 0 st bl.val bad).2.2⟩)) := by
 have hb1 : Below w.heap.size w (w.alloc (.cells #[.int .u8 26, .int .i64 a, .int .i64 b, .slice xo n cap] 53)) := (Below.refl _ _).alloc (Nat.le_refl _) _
 have hT1 := h.below hb1
 have HF1 : Hid (TF P so (some ⟨g, 0, none⟩) w so (some ⟨g, 0, none⟩) (w.alloc (.cells #[.int .u8 26, .int .i64 a, .int .i64 b, .slice xo n cap] 53))) := TF.of_below _ _ hb1
 have hq := new_block w (.cells #[.int .u8 26, .int .i64 a, .int .i64 b, .slice xo n cap] 53)
 have hPw := h.lt
 have hsr : ∀ q : Addr, so = some q → q.block < w.heap.size := fun q e => by
  rcases h.stk.2 with ⟨h1, _⟩ | ⟨g', c, cur, h1, _, h3, _⟩
  ·simp only [Value.slice.injEq] at h1; rw [h1.1] at e; cases e
  ·simp only [Value.slice.injEq] at h1; rw [h1.1] at e; cases e; exact some_lt h3
 obtain ⟨g', hg', _, hgw, _, _, _⟩ := h.inner
 cases hg'
 have HX : Hid (∀ s1 o1 w', TF P so (some ⟨g, 0, none⟩) (w.alloc (.cells #[.int .u8 26, .int .i64 a, .int .i64 b, .slice xo n cap] 53)) s1 o1 w' → w'.cell? ⟨w.heap.size, 0, none⟩ = some (.int .u8 26) ∧ w'.cell? ⟨w.heap.size, 1, none⟩ = some (.int .i64 a)) := fun s1 o1 w' f => by
  have hk : w'.heap[w.heap.size]? = some (.cells #[.int .u8 26, .int .i64 a, .int .i64 b, .slice xo n cap] 53 (0, 0)) := (f.block _ (by simp) (by omega) (fun q e => by have := hsr q e; omega) (fun q e => by cases e; show w.heap.size ≠ g; omega)).trans hq
  exact ⟨cell_at hk 0 rfl, cell_at hk 1 rfl⟩
 have hv : (ops ++ [bl]).map BlkD.val = ops.map BlkD.val ++ [bl.val] := by simp
 have hbn : bl.ks.n ≤ 10 := hks bl (by simp)
 have hN : N ≤ w.heap.size := Nat.le_trans h.np (Nat.le_of_lt h.lt)
 have HC : Hid (type_of% (vtake N P (trkM m L) so sc g oc st ops bl bad 0 (w.alloc (.cells #[.int .u8 26, .int .i64 a, .int .i64 b, .slice xo n cap] 53)) hT1 (by omega) (by omega))) := vtake N P (trkM m L) so sc g oc st ops bl bad 0 (w.alloc (.cells #[.int .u8 26, .int .i64 a, .int .i64 b, .slice xo n cap] 53)) hT1 (by omega) (by omega)
 rw [takeK_val] at HC
 have HV : Hid (type_of% hv) := hv
 have HK : Hid (type_of% hks) := hks
 generalize takeV 0 st bl.val bad = q at *
 obtain ⟨k1, s1, b1⟩ := q
 dsimp only at *
 clear h hb1 hT1 hq hks hv hsr hgw
 unfold PassOut
 go_enter Tryz.func54, Tryz.ntmps54
 go_wp2_with fail
 refine HC.out.mono ?_
 rintro r w2 ⟨rfl, h2, c2⟩
 obtain ⟨x0, x1⟩ := HX.out _ _ w2 (TF.chg _ _ c2)
 have HT2 : Hid (type_of% h2) := h2
 have HF2 : Hid (TF P so (some ⟨g, 0, none⟩) w so (some ⟨g, 0, none⟩) w2) := HF1.out.trans (TF.chg _ _ c2)
 clear h2 c2 HC HX
 go_wp2
 go_end0
 exact ⟨rfl, _, _, _, _, _, HT2.out, HF2.out, HV.out, HK.out, fun _ _ h => h⟩
theorem pass_27 (N P : Nat) (m : ModD) (L : NumD) (so : Option Addr) (sc : Nat) (g oc : Nat) (st : List Int) (ops : List BlkD) (bl : BlkD) (bad : Bool) (a b : Int) (xo : Option Addr) (n cap : Nat) (xs : List Int) (w : World) (h : TK w N P (trkM m L) so sc (some ⟨g, 0, none⟩) oc st (ops ++ [bl]) bad) (hs : st.length ≤ 1099511610000) (hbs : bl.base ≤ st.length) (hks : ∀ b ∈ ops ++ [bl], b.ks.n ≤ 10) (hno : ops.length ≤ 900) : Calls Tryz.prog 54 #[.pointer (some ⟨P, 0, none⟩), .agg #[.int .u8 27, .int .i64 a, .int .i64 b, .slice xo n cap]] w (PassOut N P (trkM m L) so (some ⟨g, 0, none⟩) w (ops ++ [bl]) (⟨(chooseV st bl.val bad).1, ops.map BlkD.val ++ [bl.val], (chooseV st bl.val bad).2⟩)) := by
 have hb1 : Below w.heap.size w (w.alloc (.cells #[.int .u8 27, .int .i64 a, .int .i64 b, .slice xo n cap] 53)) := (Below.refl _ _).alloc (Nat.le_refl _) _
 have hT1 := h.below hb1
 have HF1 : Hid (TF P so (some ⟨g, 0, none⟩) w so (some ⟨g, 0, none⟩) (w.alloc (.cells #[.int .u8 27, .int .i64 a, .int .i64 b, .slice xo n cap] 53))) := TF.of_below _ _ hb1
 have hq := new_block w (.cells #[.int .u8 27, .int .i64 a, .int .i64 b, .slice xo n cap] 53)
 have hPw := h.lt
 have hsr : ∀ q : Addr, so = some q → q.block < w.heap.size := fun q e => by
  rcases h.stk.2 with ⟨h1, _⟩ | ⟨g', c, cur, h1, _, h3, _⟩
  ·simp only [Value.slice.injEq] at h1; rw [h1.1] at e; cases e
  ·simp only [Value.slice.injEq] at h1; rw [h1.1] at e; cases e; exact some_lt h3
 obtain ⟨g', hg', _, hgw, _, _, _⟩ := h.inner
 cases hg'
 have HX : Hid (∀ s1 o1 w', TF P so (some ⟨g, 0, none⟩) (w.alloc (.cells #[.int .u8 27, .int .i64 a, .int .i64 b, .slice xo n cap] 53)) s1 o1 w' → w'.cell? ⟨w.heap.size, 0, none⟩ = some (.int .u8 27) ∧ w'.cell? ⟨w.heap.size, 1, none⟩ = some (.int .i64 a)) := fun s1 o1 w' f => by
  have hk : w'.heap[w.heap.size]? = some (.cells #[.int .u8 27, .int .i64 a, .int .i64 b, .slice xo n cap] 53 (0, 0)) := (f.block _ (by simp) (by omega) (fun q e => by have := hsr q e; omega) (fun q e => by cases e; show w.heap.size ≠ g; omega)).trans hq
  exact ⟨cell_at hk 0 rfl, cell_at hk 1 rfl⟩
 have hv : (ops ++ [bl]).map BlkD.val = ops.map BlkD.val ++ [bl.val] := by simp
 have hbn : bl.ks.n ≤ 10 := hks bl (by simp)
 have hN : N ≤ w.heap.size := Nat.le_trans h.np (Nat.le_of_lt h.lt)
 have HC : Hid (type_of% (vchoose N P (trkM m L) so sc g oc st ops bl bad (w.alloc (.cells #[.int .u8 27, .int .i64 a, .int .i64 b, .slice xo n cap] 53)) hT1 (by omega) (by omega))) := vchoose N P (trkM m L) so sc g oc st ops bl bad (w.alloc (.cells #[.int .u8 27, .int .i64 a, .int .i64 b, .slice xo n cap] 53)) hT1 (by omega) (by omega)
 rw [chooseK_val] at HC
 have HV : Hid (type_of% hv) := hv
 have HK : Hid (type_of% hks) := hks
 generalize chooseV st bl.val bad = q at *
 obtain ⟨s1, b1⟩ := q
 dsimp only at *
 clear h hb1 hT1 hq hks hv hsr hgw
 unfold PassOut
 go_enter Tryz.func54, Tryz.ntmps54
 go_wp2_with fail
 refine HC.out.mono ?_
 rintro r w2 ⟨rfl, so', sc', h2, f2⟩
 obtain ⟨x0, x1⟩ := HX.out _ _ w2 f2
 have HT2 : Hid (type_of% h2) := h2
 have HF2 : Hid (TF P so (some ⟨g, 0, none⟩) w so' (some ⟨g, 0, none⟩) w2) := HF1.out.trans f2
 clear h2 f2 HC HX
 go_wp2
 go_end0
 exact ⟨rfl, _, _, _, _, _, HT2.out, HF2.out, HV.out, HK.out, fun _ _ h => h⟩
theorem pass_5 (N P : Nat) (m : ModD) (L : NumD) (so : Option Addr) (sc : Nat) (g oc : Nat) (st : List Int) (ops : List BlkD) (bl : BlkD) (bad : Bool) (a b : Int) (xo : Option Addr) (n cap : Nat) (xs : List Int) (w : World) (h : TK w N P (trkM m L) so sc (some ⟨g, 0, none⟩) oc st (ops ++ [bl]) bad) (hs : st.length ≤ 1099511610000) (hbs : bl.base ≤ st.length) (hks : ∀ b ∈ ops ++ [bl], b.ks.n ≤ 10) (hno : ops.length ≤ 900) : Calls Tryz.prog 54 #[.pointer (some ⟨P, 0, none⟩), .agg #[.int .u8 5, .int .i64 a, .int .i64 b, .slice xo n cap]] w (PassOut N P (trkM m L) so (some ⟨g, 0, none⟩) w (ops ++ [bl]) (⟨(finV st bl.val bad).1, ops.map BlkD.val ++ [{ bl.val with op := 5, dead := false }], (finV st bl.val bad).2⟩)) := by
 have hb1 : Below w.heap.size w (w.alloc (.cells #[.int .u8 5, .int .i64 a, .int .i64 b, .slice xo n cap] 53)) := (Below.refl _ _).alloc (Nat.le_refl _) _
 have hT1 := h.below hb1
 have HF1 : Hid (TF P so (some ⟨g, 0, none⟩) w so (some ⟨g, 0, none⟩) (w.alloc (.cells #[.int .u8 5, .int .i64 a, .int .i64 b, .slice xo n cap] 53))) := TF.of_below _ _ hb1
 have hq := new_block w (.cells #[.int .u8 5, .int .i64 a, .int .i64 b, .slice xo n cap] 53)
 have hPw := h.lt
 have hsr : ∀ q : Addr, so = some q → q.block < w.heap.size := fun q e => by
  rcases h.stk.2 with ⟨h1, _⟩ | ⟨g', c, cur, h1, _, h3, _⟩
  ·simp only [Value.slice.injEq] at h1; rw [h1.1] at e; cases e
  ·simp only [Value.slice.injEq] at h1; rw [h1.1] at e; cases e; exact some_lt h3
 obtain ⟨g', hg', _, hgw, _, _, _⟩ := h.inner
 cases hg'
 have HX : Hid (∀ s1 o1 w', TF P so (some ⟨g, 0, none⟩) (w.alloc (.cells #[.int .u8 5, .int .i64 a, .int .i64 b, .slice xo n cap] 53)) s1 o1 w' → w'.cell? ⟨w.heap.size, 0, none⟩ = some (.int .u8 5) ∧ w'.cell? ⟨w.heap.size, 1, none⟩ = some (.int .i64 a)) := fun s1 o1 w' f => by
  have hk : w'.heap[w.heap.size]? = some (.cells #[.int .u8 5, .int .i64 a, .int .i64 b, .slice xo n cap] 53 (0, 0)) := (f.block _ (by simp) (by omega) (fun q e => by have := hsr q e; omega) (fun q e => by cases e; show w.heap.size ≠ g; omega)).trans hq
  exact ⟨cell_at hk 0 rfl, cell_at hk 1 rfl⟩
 have hv : (ops ++ [bl]).map BlkD.val = ops.map BlkD.val ++ [bl.val] := by simp
 have hbn : bl.ks.n ≤ 10 := hks bl (by simp)
 have hN : N ≤ w.heap.size := Nat.le_trans h.np (Nat.le_of_lt h.lt)
 have HC : Hid (type_of% (vturn N P (trkM m L) so sc g oc st ops bl bad (w.alloc (.cells #[.int .u8 5, .int .i64 a, .int .i64 b, .slice xo n cap] 53)) hT1 (by omega) (by omega) (by omega))) := vturn N P (trkM m L) so sc g oc st ops bl bad (w.alloc (.cells #[.int .u8 5, .int .i64 a, .int .i64 b, .slice xo n cap] 53)) hT1 (by omega) (by omega) (by omega)
 rw [finK_val] at HC
 have HV : Hid ((ops ++ [{ bl with op := 5, dead := false }]).map BlkD.val = ops.map BlkD.val ++ [{ bl.val with op := 5, dead := false }]) := by unfold Hid; simp [BlkD.val]
 have HK : Hid (∀ b ∈ ops ++ [{ bl with op := 5, dead := false }], b.ks.n ≤ 10) := fun x hx => by
  rcases List.mem_append.1 hx with hx | hx
  ·exact hks x (by simp [hx])
  ·rw [List.mem_singleton] at hx; rw [hx]; exact hbn
 generalize finV st bl.val bad = q at *
 obtain ⟨s1, b1⟩ := q
 dsimp only at *
 clear h hb1 hT1 hq hks hv hsr hgw
 unfold PassOut
 go_enter Tryz.func54, Tryz.ntmps54
 go_wp2_with fail
 refine HC.out.mono ?_
 rintro r w2 ⟨rfl, h2, f2⟩
 obtain ⟨x0, x1⟩ := HX.out _ _ w2 f2
 have HT2 : Hid (type_of% h2) := h2
 have HF2 : Hid (TF P so (some ⟨g, 0, none⟩) w so (some ⟨g, 0, none⟩) w2) := HF1.out.trans f2
 clear h2 f2 HC HX
 go_wp2
 go_end0
 exact ⟨rfl, _, _, _, _, _, HT2.out, HF2.out, HV.out, HK.out, fun G _ h b hb => by
  rcases List.mem_append.1 hb with q | q
  ·exact h b (by simp [q])
  ·rw [List.mem_singleton] at q; rw [q]; exact h bl (by simp)⟩
theorem pass_11_if (N P : Nat) (m : ModD) (L : NumD) (so : Option Addr) (sc : Nat) (g oc : Nat) (st : List Int) (ops : List BlkD) (bl : BlkD) (bad : Bool) (a b : Int) (xo : Option Addr) (n cap : Nat) (xs : List Int) (w : World) (h : TK w N P (trkM m L) so sc (some ⟨g, 0, none⟩) oc st (ops ++ [bl]) bad) (hs : st.length ≤ 1099511610000) (hbs : bl.base ≤ st.length) (hks : ∀ b ∈ ops ++ [bl], b.ks.n ≤ 10) (hno : ops.length ≤ 900) (hop : bl.op = 4) : Calls Tryz.prog 54 #[.pointer (some ⟨P, 0, none⟩), .agg #[.int .u8 11, .int .i64 a, .int .i64 b, .slice xo n cap]] w (PassOut N P (trkM m L) so (some ⟨g, 0, none⟩) w (ops ++ [bl]) (⟨(finV st bl.val bad).1 ++ bl.ks.xs, ops.map BlkD.val, (finV st bl.val bad).2 || !((bl.ks.xs.length : Int) == 0)⟩)) := by
 have hb1 : Below w.heap.size w (w.alloc (.cells #[.int .u8 11, .int .i64 a, .int .i64 b, .slice xo n cap] 53)) := (Below.refl _ _).alloc (Nat.le_refl _) _
 have hT1 := h.below hb1
 have HF1 : Hid (TF P so (some ⟨g, 0, none⟩) w so (some ⟨g, 0, none⟩) (w.alloc (.cells #[.int .u8 11, .int .i64 a, .int .i64 b, .slice xo n cap] 53))) := TF.of_below _ _ hb1
 have hq := new_block w (.cells #[.int .u8 11, .int .i64 a, .int .i64 b, .slice xo n cap] 53)
 have hPw := h.lt
 have hsr : ∀ q : Addr, so = some q → q.block < w.heap.size := fun q e => by
  rcases h.stk.2 with ⟨h1, _⟩ | ⟨g', c, cur, h1, _, h3, _⟩
  ·simp only [Value.slice.injEq] at h1; rw [h1.1] at e; cases e
  ·simp only [Value.slice.injEq] at h1; rw [h1.1] at e; cases e; exact some_lt h3
 obtain ⟨g', hg', _, hgw, _, _, _⟩ := h.inner
 cases hg'
 have HX : Hid (∀ s1 o1 w', TF P so (some ⟨g, 0, none⟩) (w.alloc (.cells #[.int .u8 11, .int .i64 a, .int .i64 b, .slice xo n cap] 53)) s1 o1 w' → w'.cell? ⟨w.heap.size, 0, none⟩ = some (.int .u8 11) ∧ w'.cell? ⟨w.heap.size, 1, none⟩ = some (.int .i64 a)) := fun s1 o1 w' f => by
  have hk : w'.heap[w.heap.size]? = some (.cells #[.int .u8 11, .int .i64 a, .int .i64 b, .slice xo n cap] 53 (0, 0)) := (f.block _ (by simp) (by omega) (fun q e => by have := hsr q e; omega) (fun q e => by cases e; show w.heap.size ≠ g; omega)).trans hq
  exact ⟨cell_at hk 0 rfl, cell_at hk 1 rfl⟩
 have hv : (ops ++ [bl]).map BlkD.val = ops.map BlkD.val ++ [bl.val] := by simp
 have hbn : bl.ks.n ≤ 10 := hks bl (by simp)
 have hN : N ≤ w.heap.size := Nat.le_trans h.np (Nat.le_of_lt h.lt)
 have HC : Hid (type_of% (vleave_if N P (trkM m L) so sc g oc st ops bl bad (w.alloc (.cells #[.int .u8 11, .int .i64 a, .int .i64 b, .slice xo n cap] 53)) hT1 (by omega) (by omega) (by omega) hop (by omega))) := vleave_if N P (trkM m L) so sc g oc st ops bl bad (w.alloc (.cells #[.int .u8 11, .int .i64 a, .int .i64 b, .slice xo n cap] 53)) hT1 (by omega) (by omega) (by omega) hop (by omega)
 rw [finK_val] at HC
 rw [← (h.kin bl (by simp)).1.len] at HC
 have HV : Hid (ops.map BlkD.val = ops.map BlkD.val) := rfl
 have HK : Hid (∀ b ∈ ops, b.ks.n ≤ 10) := fun x hx => hks x (by simp [hx])
 generalize finV st bl.val bad = q at *
 obtain ⟨s1, b1⟩ := q
 dsimp only at *
 clear h hb1 hT1 hq hks hv hsr hgw hop
 unfold PassOut
 go_enter Tryz.func54, Tryz.ntmps54
 go_wp2_with fail
 refine HC.out.mono ?_
 rintro r w2 ⟨rfl, so', sc', h2, f2⟩
 obtain ⟨x0, x1⟩ := HX.out _ _ w2 f2
 have HT2 : Hid (type_of% h2) := h2
 have HF2 : Hid (TF P so (some ⟨g, 0, none⟩) w so' (some ⟨g, 0, none⟩) w2) := HF1.out.trans f2
 clear h2 f2 HC HX
 go_wp2
 go_end0
 exact ⟨rfl, _, _, _, _, _, HT2.out, HF2.out, rfl, HK.out, fun G _ h b hb => h b (by simp [hb])⟩
theorem pass_11_other (N P : Nat) (m : ModD) (L : NumD) (so : Option Addr) (sc : Nat) (g oc : Nat) (st : List Int) (ops : List BlkD) (bl : BlkD) (bad : Bool) (a b : Int) (xo : Option Addr) (n cap : Nat) (xs : List Int) (w : World) (h : TK w N P (trkM m L) so sc (some ⟨g, 0, none⟩) oc st (ops ++ [bl]) bad) (hs : st.length ≤ 1099511610000) (hbs : bl.base ≤ st.length) (hks : ∀ b ∈ ops ++ [bl], b.ks.n ≤ 10) (hno : ops.length ≤ 900) (hop : bl.op ≠ 4) : Calls Tryz.prog 54 #[.pointer (some ⟨P, 0, none⟩), .agg #[.int .u8 11, .int .i64 a, .int .i64 b, .slice xo n cap]] w (PassOut N P (trkM m L) so (some ⟨g, 0, none⟩) w (ops ++ [bl]) (⟨(finV st bl.val bad).1 ++ bl.ks.xs, ops.map BlkD.val, (finV st bl.val bad).2 || !true⟩)) := by
 have hb1 : Below w.heap.size w (w.alloc (.cells #[.int .u8 11, .int .i64 a, .int .i64 b, .slice xo n cap] 53)) := (Below.refl _ _).alloc (Nat.le_refl _) _
 have hT1 := h.below hb1
 have HF1 : Hid (TF P so (some ⟨g, 0, none⟩) w so (some ⟨g, 0, none⟩) (w.alloc (.cells #[.int .u8 11, .int .i64 a, .int .i64 b, .slice xo n cap] 53))) := TF.of_below _ _ hb1
 have hq := new_block w (.cells #[.int .u8 11, .int .i64 a, .int .i64 b, .slice xo n cap] 53)
 have hPw := h.lt
 have hsr : ∀ q : Addr, so = some q → q.block < w.heap.size := fun q e => by
  rcases h.stk.2 with ⟨h1, _⟩ | ⟨g', c, cur, h1, _, h3, _⟩
  ·simp only [Value.slice.injEq] at h1; rw [h1.1] at e; cases e
  ·simp only [Value.slice.injEq] at h1; rw [h1.1] at e; cases e; exact some_lt h3
 obtain ⟨g', hg', _, hgw, _, _, _⟩ := h.inner
 cases hg'
 have HX : Hid (∀ s1 o1 w', TF P so (some ⟨g, 0, none⟩) (w.alloc (.cells #[.int .u8 11, .int .i64 a, .int .i64 b, .slice xo n cap] 53)) s1 o1 w' → w'.cell? ⟨w.heap.size, 0, none⟩ = some (.int .u8 11) ∧ w'.cell? ⟨w.heap.size, 1, none⟩ = some (.int .i64 a)) := fun s1 o1 w' f => by
  have hk : w'.heap[w.heap.size]? = some (.cells #[.int .u8 11, .int .i64 a, .int .i64 b, .slice xo n cap] 53 (0, 0)) := (f.block _ (by simp) (by omega) (fun q e => by have := hsr q e; omega) (fun q e => by cases e; show w.heap.size ≠ g; omega)).trans hq
  exact ⟨cell_at hk 0 rfl, cell_at hk 1 rfl⟩
 have hv : (ops ++ [bl]).map BlkD.val = ops.map BlkD.val ++ [bl.val] := by simp
 have hbn : bl.ks.n ≤ 10 := hks bl (by simp)
 have hN : N ≤ w.heap.size := Nat.le_trans h.np (Nat.le_of_lt h.lt)
 have HC : Hid (type_of% (vleave_other N P (trkM m L) so sc g oc st ops bl bad (w.alloc (.cells #[.int .u8 11, .int .i64 a, .int .i64 b, .slice xo n cap] 53)) hT1 (by omega) (by omega) (by omega) hop (by omega))) := vleave_other N P (trkM m L) so sc g oc st ops bl bad (w.alloc (.cells #[.int .u8 11, .int .i64 a, .int .i64 b, .slice xo n cap] 53)) hT1 (by omega) (by omega) (by omega) hop (by omega)
 rw [finK_val] at HC
 skip
 have HV : Hid (ops.map BlkD.val = ops.map BlkD.val) := rfl
 have HK : Hid (∀ b ∈ ops, b.ks.n ≤ 10) := fun x hx => hks x (by simp [hx])
 generalize finV st bl.val bad = q at *
 obtain ⟨s1, b1⟩ := q
 dsimp only at *
 clear h hb1 hT1 hq hks hv hsr hgw hop
 unfold PassOut
 go_enter Tryz.func54, Tryz.ntmps54
 go_wp2_with fail
 refine HC.out.mono ?_
 rintro r w2 ⟨rfl, so', sc', h2, f2⟩
 obtain ⟨x0, x1⟩ := HX.out _ _ w2 f2
 have HT2 : Hid (type_of% h2) := h2
 have HF2 : Hid (TF P so (some ⟨g, 0, none⟩) w so' (some ⟨g, 0, none⟩) w2) := HF1.out.trans f2
 clear h2 f2 HC HX
 go_wp2
 go_end0
 exact ⟨rfl, _, _, _, _, _, HT2.out, HF2.out, rfl, HK.out, fun G _ h b hb => h b (by simp [hb])⟩
end Go.Proofs.YtlfihndbnaaodaaGreatDoor
