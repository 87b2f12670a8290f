/-
 The program's own isThere.
 The program's own isThere, the rest.
 The program's own isAllowed.
-/
import Derived.Test.YtlfihndbnaaodaaGreatDoorIVF
set_option maxHeartbeats 4000000
set_option maxRecDepth 1000000
namespace Go.Proofs.YtlfihndbnaaodaaGreatDoor
open Go.RowKit
set_option linter.unusedVariables false
def trkM (m : ModD) (L : NumD) : Nat → Value
 | 0 => .slice m.oT m.types.length m.cT
 | 1 => .slice m.oI m.imports.length m.cI
 | 2 => .slice m.oF m.funcs.length m.cF
 | 3 => .int .i64 m.table
 | 4 => .int .i64 m.pages
 | 5 => .int .i64 m.most
 | 6 => .slice m.oG m.globals.length m.cG
 | 7 => .slice m.oE m.exports.length m.cE
 | 8 => .int .i64 m.start
 | 9 => .slice m.oL m.elems.length m.cL
 | 10 => .slice m.oD m.data.length m.cD
 | _ => .slice L.o L.n L.cap
theorem TK.k {w : World} {N P : Nat} {M : Nat → Value} {so : Option Addr} {sc : Nat} {oo : Option Addr} {oc : Nat} {st : List Int} {ops : List BlkD} {bad : Bool} (h : TK w N P M so sc oo oc st ops bad) (i : Nat) (hi : i < 12) : w.cell? ⟨P, i, none⟩ = some (M i) := by
 refine trk_cell h.box i ?_
 match i, hi with
 | 0, _ => rfl
 | 1, _ => rfl
 | 2, _ => rfl
 | 3, _ => rfl
 | 4, _ => rfl
 | 5, _ => rfl
 | 6, _ => rfl
 | 7, _ => rfl
 | 8, _ => rfl
 | 9, _ => rfl
 | 10, _ => rfl
 | 11, _ => rfl
def thereK (m : ModD) (nl no : Nat) (op a : Int) (xs : List Int) : Bool :=
 if op = 12 ∨ op = 13 ∨ op = 14 then decide (a < (no : Int)) && !(xs.any fun f => !decide (f < (no : Int)))
 else if op = 16 then decide (a < (m.imports.length : Int) + (m.funcs.length : Int))
 else if op = 17 then decide (0 < m.table) && decide (a < (m.types.length : Int))
 else if op = 32 ∨ op = 33 ∨ op = 34 then decide (a < (nl : Int))
 else if op = 35 ∨ op = 36 then decide (a < (m.globals.length : Int))
 else if op = 63 ∨ op = 64 then decide (0 < m.most)
 else decide (insW op = 0) || decide (0 < m.most)
def LJ1 (w : World) (o : Option Addr) (xs : List Int) : Prop := xs = [] ∨ ∃ b f, o = some ⟨b, f, none⟩ ∧ b < w.heap.size ∧ ∀ i (h : i < xs.length), w.cell? ⟨b, f + i, none⟩ = some (.int .i64 xs[i])
theorem LJ1.below {w w' : World} {o : Option Addr} {xs : List Int} (h : LJ1 w o xs) (b : Below w.heap.size w w') : LJ1 w' o xs := by
 rcases h with h | ⟨g, f, h1, h2, h3⟩
 ·exact Or.inl h
 ·exact Or.inr ⟨g, f, h1, Nat.lt_of_lt_of_le h2 b.size, fun i hi => (b.cell (p := ⟨g, f + i, none⟩) h2).trans (h3 i hi)⟩
theorem there_cl (N P X : Nat) (M : Nat → Value) (so : Option Addr) (sc : Nat) (oo : Option Addr) (oc : Nat) (st : List Int) (ops : List BlkD) (bad : Bool) (fa : Int) (w : World) (h : TK w N P M so sc oo oc st ops bad) (hX : w.cell? ⟨X, 0, none⟩ = some (.pointer (some ⟨P, 0, none⟩))) :
  Calls Tryz.prog 79 #[.int .i64 fa, .pointer (some ⟨X, 0, none⟩)] w fun r w' => r = .returned (.bool (!decide (fa < (ops.length : Int)))) ∧ Below w.heap.size w w' := by
 have HL : Hid (type_of% (vleads N P M so sc oo oc st ops bad fa w h)) := vleads N P M so sc oo oc st ops bad fa w h
 clear h
 go_enter Tryz.func79, Tryz.ntmps79
 go_wp2_with fail
 refine HL.out.mono ?_
 rintro r w1 ⟨rfl, rfl⟩
 go_wp2
 go_ret
 exact ⟨by simp, Below.refl _ _⟩
end Go.Proofs.YtlfihndbnaaodaaGreatDoor
namespace Go.Proofs.YtlfihndbnaaodaaGreatDoor
open Go.RowKit
set_option linter.unusedVariables false
theorem hid_of {p : Prop} (h : p) : Hid p := h
theorem TK.cells {w : World} {N P : Nat} {m : ModD} {L : NumD} {so : Option Addr} {sc : Nat} {oo : Option Addr} {oc : Nat} {st : List Int} {ops : List BlkD} {bad : Bool} (h : TK w N P (trkM m L) so sc oo oc st ops bad) : w.cell? ⟨P, 0, none⟩ = some (.slice m.oT m.types.length m.cT) ∧ w.cell? ⟨P, 1, none⟩ = some (.slice m.oI m.imports.length m.cI) ∧ w.cell? ⟨P, 2, none⟩ = some (.slice m.oF m.funcs.length m.cF) ∧ w.cell? ⟨P, 3, none⟩ = some (.int .i64 m.table) ∧ w.cell? ⟨P, 4, none⟩ = some (.int .i64 m.pages) ∧ w.cell? ⟨P, 5, none⟩ = some (.int .i64 m.most) ∧ w.cell? ⟨P, 6, none⟩ = some (.slice m.oG m.globals.length m.cG) ∧ w.cell? ⟨P, 7, none⟩ = some (.slice m.oE m.exports.length m.cE) ∧ w.cell? ⟨P, 8, none⟩ = some (.int .i64 m.start) ∧ w.cell? ⟨P, 9, none⟩ = some (.slice m.oL m.elems.length m.cL) ∧ w.cell? ⟨P, 10, none⟩ = some (.slice m.oD m.data.length m.cD) ∧ w.cell? ⟨P, 11, none⟩ = some (.slice L.o L.n L.cap) :=
 ⟨h.k 0 (by omega), h.k 1 (by omega), h.k 2 (by omega), h.k 3 (by omega), h.k 4 (by omega), h.k 5 (by omega), h.k 6 (by omega), h.k 7 (by omega), h.k 8 (by omega), h.k 9 (by omega), h.k 10 (by omega), h.k 11 (by omega)⟩
theorem visInK (o : Option Addr) (n c : Nat) (a : Int) (w : World) : Calls Tryz.prog 81 #[.slice o n c, .int .i64 a] w fun r w' => r = .returned (.bool (decide (a < (n : Int)))) ∧ w' = w := by
 go_enter Tryz.func81, Tryz.ntmps81
 go_wp2
 go_ret
 exact ⟨rfl, rfl⟩
theorem there_any (op : Int) (N P : Nat) (m : ModD) (L : NumD) (so : Option Addr) (sc : Nat) (oo : Option Addr) (oc : Nat) (st : List Int) (ops : List BlkD) (bad : Bool) (a b : Int) (xo : Option Addr) (n cap : Nat) (xs : List Int) (w : World) (h : TK w N P (trkM m L) so sc oo oc st ops bad) (hm : m.types.length ≤ 16 ∧ m.imports.length ≤ 16 ∧ m.funcs.length ≤ 16 ∧ m.globals.length ≤ 16) (hl : xs.length = n) (hcap : n ≤ cap) (hcm : cap ≤ 9223372036854775807) (hat : LJ1 w xo xs) (ha : op ≤ 36 → 0 ≤ a) :
  Calls Tryz.prog 50 #[.pointer (some ⟨P, 0, none⟩), .agg #[.int .u8 op, .int .i64 a, .int .i64 b, .slice xo n cap]] w fun r w' => r = .returned (.bool (thereK m L.n ops.length op a xs)) ∧ Below w.heap.size w w' := by
 have hb2 := ((Below.refl w.heap.size w).alloc (Nat.le_refl _) (.cells #[.pointer (some ⟨P, 0, none⟩)] 72)).alloc (by simp) (.cells #[.int .u8 op, .int .i64 a, .int .i64 b, .slice xo n cap] 53)
 obtain ⟨k0, k1, k2, k3, k4, k5, k6, k7, k8, k9, k10, _⟩ := TK.cells (h.below hb2)
 obtain ⟨V, hV⟩ : ∃ V, V = ((w.alloc (.cells #[.pointer (some ⟨P, 0, none⟩)] 72)).alloc (.cells #[.int .u8 op, .int .i64 a, .int .i64 b, .slice xo n cap] 53)).alloc (.cells #[.slice m.oT m.types.length m.cT, .slice m.oI m.imports.length m.cI, .slice m.oF m.funcs.length m.cF, .int .i64 m.table, .int .i64 m.pages, .int .i64 m.most, .slice m.oG m.globals.length m.cG, .slice m.oE m.exports.length m.cE, .int .i64 m.start, .slice m.oL m.elems.length m.cL, .slice m.oD m.data.length m.cD] 30) := ⟨_, rfl⟩
 have HB3 : Hid (Below w.heap.size w V) := by rw [hV]; exact hb2.alloc (by simp; omega) _
 have hT := h.below HB3.out
 have k11 := hT.k 11 (by omega)
 have hVs : w.heap.size < V.heap.size := by rw [hV]; simp; omega
 have q0 : V.cell? ⟨w.heap.size, 0, none⟩ = some (.pointer (some ⟨P, 0, none⟩)) := by
  rw [hV]
  exact ((((Below.refl (w.heap.size + 1) _).alloc (by simp) _).alloc (by simp) _).cell (p := ⟨w.heap.size, 0, none⟩) (by show w.heap.size < w.heap.size + 1; omega)).trans (cell_one_new w (.pointer (some ⟨P, 0, none⟩)) 72 0 _ rfl)
 have HBZ := hid_of (HB3.out.alloc (Nat.le_of_lt hVs) (.cells #[.slice m.oT m.types.length m.cT, .slice m.oI m.imports.length m.cI, .slice m.oF m.funcs.length m.cF, .int .i64 m.table, .int .i64 m.pages, .int .i64 m.most, .slice m.oG m.globals.length m.cG, .slice m.oE m.exports.length m.cE, .int .i64 m.start, .slice m.oL m.elems.length m.cL, .slice m.oD m.data.length m.cD] 30))
 obtain ⟨hm1, hm2, hm3, hm4⟩ := hm
 unfold thereK
 by_cases c12 : op = 12 ∨ op = 13 ∨ op = 14
 ·rw [if_pos c12]
  have HL := hid_of (vleads N P (trkM m L) so sc oo oc st ops bad a V hT)
  have HC := hid_of (contains_there w.heap.size (fun f => !decide (f < (ops.length : Int))) xo n cap xs V hl hcap hcm (hat.below HB3.out) (fun w' b' x _ => there_cl N P w.heap.size (trkM m L) so sc oo oc st ops bad x w' (hT.below b') ((b'.cell (p := ⟨w.heap.size, 0, none⟩) hVs).trans q0)))
  generalize ops.length = no at *
  generalize (xs.any fun f => !decide (f < (no : Int))) = any at *
  subst hV
  clear h hb2 hT hVs k11 q0 hat hl HBZ
  cases hd : decide (a < (no : Int))
  all_goals
   have HD : Hid (decide (a < (no : Int)) = _) := hd
   rw [hd] at HL
   clear hd
   rcases c12 with rfl | rfl | rfl
  all_goals
   go_enter Tryz.func50, Tryz.ntmps50
   go_wp2_with fail
   refine HL.out.mono ?_
   rintro r w1 ⟨rfl, rfl⟩
   go_wp2_with fail
   first
    | (refine bodyPost_ret (results_tmp rfl _ _ _) rfl ?_; exact ⟨by simp, HB3.out⟩)
    | (refine HC.out.mono ?_; rintro r w2 ⟨rfl, hb⟩; have HBF : Hid (Below w.heap.size w w2) := HB3.out.trans (hb.mono HB3.out.size); clear hb HC HL; go_wp2; refine bodyPost_ret (results_tmp rfl _ _ _) rfl ?_; exact ⟨by simp, HBF.out⟩)
 rw [if_neg c12]
 have HW := hid_of (width_any op V)
 subst hV
 clear h hb2 hT hVs q0 hat hl
 by_cases c16 : op = 16
 ·rw [if_pos c16]
  have ha1 : decide (0 ≤ a) = true := decide_eq_true (ha (by omega))
  subst c16
  clear ha
  go_enter Tryz.func50, Tryz.ntmps50
  go_wp2
  refine bodyPost_ret (results_tmp rfl _ _ _) rfl ?_
  exact ⟨rfl, HBZ.out⟩
 rw [if_neg c16]
 clear ha HBZ
 by_cases c17 : op = 17
 ·rw [if_pos c17]
  subst c17
  cases hd : decide (0 < m.table)
  all_goals
   go_enter Tryz.func50, Tryz.ntmps50
   go_wp2
   refine bodyPost_ret (results_tmp rfl _ _ _) rfl ?_
   exact ⟨by simp, HB3.out⟩
 rw [if_neg c17]
 by_cases c32 : op = 32 ∨ op = 33 ∨ op = 34
 ·rw [if_pos c32]
  rcases c32 with rfl | rfl | rfl
  all_goals
   go_enter Tryz.func50, Tryz.ntmps50
   go_wp2
   go_quiet ((go_at_call 81; exact Calls.quiet_of_same (visInK _ _ _ _ _)))
   go_wp2
   refine bodyPost_ret (results_tmp rfl _ _ _) rfl ?_
   exact ⟨rfl, below_drewN HB3.out _⟩
 rw [if_neg c32]
 clear k11
 by_cases c35 : op = 35 ∨ op = 36
 ·rw [if_pos c35]
  rcases c35 with rfl | rfl
  all_goals
   go_enter Tryz.func50, Tryz.ntmps50
   go_wp2
   refine bodyPost_ret (results_tmp rfl _ _ _) rfl ?_
   exact ⟨rfl, HB3.out⟩
 rw [if_neg c35]
 by_cases c63 : op = 63 ∨ op = 64
 ·rw [if_pos c63]
  rcases c63 with rfl | rfl
  all_goals
   go_enter Tryz.func50, Tryz.ntmps50
   go_wp2
   refine bodyPost_ret (results_tmp rfl _ _ _) rfl ?_
   exact ⟨rfl, HB3.out⟩
 rw [if_neg c63]
 have b12 : (op == 12) = false := beq_eq_false_iff_ne.2 (by omega)
 have b13 : (op == 13) = false := beq_eq_false_iff_ne.2 (by omega)
 have b14 : (op == 14) = false := beq_eq_false_iff_ne.2 (by omega)
 have b16 : (op == 16) = false := beq_eq_false_iff_ne.2 (by omega)
 have b17 : (op == 17) = false := beq_eq_false_iff_ne.2 (by omega)
 have b32 : (op == 32) = false := beq_eq_false_iff_ne.2 (by omega)
 have b33 : (op == 33) = false := beq_eq_false_iff_ne.2 (by omega)
 have b34 : (op == 34) = false := beq_eq_false_iff_ne.2 (by omega)
 have b35 : (op == 35) = false := beq_eq_false_iff_ne.2 (by omega)
 have b36 : (op == 36) = false := beq_eq_false_iff_ne.2 (by omega)
 have b63 : (op == 63) = false := beq_eq_false_iff_ne.2 (by omega)
 have b64 : (op == 64) = false := beq_eq_false_iff_ne.2 (by omega)
 clear c12 c16 c17 c32 c35 c63
 generalize insW op = wd at *
 cases hd : (wd == 0)
 all_goals
  have HD := hid_of hd
  go_enter Tryz.func50, Tryz.ntmps50
  go_wp2_with fail
  refine HW.out.mono ?_
  rintro r w1 ⟨rfl, rfl⟩
  go_wp2
  refine bodyPost_ret (results_tmp rfl _ _ _) rfl ?_
  exact ⟨by have e := HD.out; simp_all, HB3.out⟩
end Go.Proofs.YtlfihndbnaaodaaGreatDoor
namespace Go.Proofs.YtlfihndbnaaodaaGreatDoor
open Go.RowKit
set_option linter.unusedVariables false
theorem along_ok {w : World} {b : BlkD} (h : b.ks.ok .u8 w) : b.along.ok .u8 w := by
 unfold BlkD.along
 split
 ·exact nilN_ok w
 ·exact h
theorem allowed_cl (N P X Y : Nat) (M : Nat → Value) (so : Option Addr) (sc : Nat) (oo : Option Addr) (oc : Nat) (st : List Int) (ops : List BlkD) (bad : Bool) (d : NumD) (fa : Int) (w : World) (h : TK w N P M so sc oo oc st ops bad) (hX : w.cell? ⟨X, 0, none⟩ = some (.pointer (some ⟨P, 0, none⟩))) (hX1 : X < w.heap.size) (hY : w.cell? ⟨Y, 0, none⟩ = some (.slice d.o d.n d.cap)) (hY1 : Y < w.heap.size) (hd : d.ok .u8 w) (i : Nat) (hi : i < ops.length) (hf : fa = (ops.length : Int) - 1 - (i : Int)) :
  Calls Tryz.prog 87 #[.int .i64 fa, .pointer (some ⟨X, 0, none⟩), .pointer (some ⟨Y, 0, none⟩)] w fun r w' => r = .returned (.bool (!((ops[i]).along.xs == d.xs))) ∧ Below w.heap.size w w' := by
 have HO : Hid (∀ w', Below w.heap.size w w' → Calls Tryz.prog 85 #[.pointer (some ⟨P, 0, none⟩), .int .i64 fa] w' fun r w'' => r = .returned (.agg #[.int .u8 (ops[i]).op, .slice (ops[i]).ks.o (ops[i]).ks.n (ops[i]).ks.cap, .int .i64 ((ops[i]).base : Int), .bool (ops[i]).dead]) ∧ Below w'.heap.size w' w'') := fun w' b => vout N P M so sc oo oc st ops bad fa w' (h.below b) i hi hf
 have hk := h.kin (ops[i]) (List.getElem_mem hi)
 have HE : Hid (∀ w', Below w.heap.size w w' → Calls Tryz.prog 88 #[.slice (ops[i]).along.o (ops[i]).along.n (ops[i]).along.cap, .slice d.o d.n d.cap] w' fun r w'' => r = .returned (.bool ((ops[i]).along.xs == d.xs)) ∧ Below w'.heap.size w' w'') := fun w' b => vequal _ d w' ((along_ok hk.1).below b) (hd.below b)
 generalize ops[i] = bl at *
 have HA : Hid (∀ w', Calls Tryz.prog 86 #[.agg #[.int .u8 bl.op, .slice bl.ks.o bl.ks.n bl.ks.cap, .int .i64 (bl.base : Int), .bool bl.dead]] w' fun r w'' => r = .returned (.slice bl.along.o bl.along.n bl.along.cap) ∧ Below w'.heap.size w' w'') := fun w' => valong bl w'
 have HS : Hid (∀ w', Below w.heap.size w w' → w'.cell? ⟨X, 0, none⟩ = some (.pointer (some ⟨P, 0, none⟩)) ∧ w'.cell? ⟨Y, 0, none⟩ = some (.slice d.o d.n d.cap)) := fun w' b => ⟨(b.cell (p := ⟨X, 0, none⟩) hX1).trans hX, (b.cell (p := ⟨Y, 0, none⟩) hY1).trans hY⟩
 have HB0 : Hid (Below w.heap.size w w) := Below.refl _ _
 generalize (bl.along.xs == d.xs) = res at *
 generalize bl.along = al at *
 clear h hk hd hi hf hX1 hY1
 go_enter Tryz.func87, Tryz.ntmps87
 go_wp2
 go_region_held3 (fun w' => w'.cell? ⟨X, 0, none⟩ = some (.pointer (some ⟨P, 0, none⟩)) ∧ w'.cell? ⟨Y, 0, none⟩ = some (.slice d.o d.n d.cap))
  (first | exact HS.out _ bch | go_keep)
  (first
   | (go_at_call 85; (fail_if_success (have := HT1)); refine (HO.out _ ?_).mono ?_; exact bch; rintro r w1 ⟨rfl, b1⟩; have HT1 : Hid True := trivial; have HA1 : Hid (Below w.heap.size w w1) := (by (refine Below.trans ?_ (b1.mono ?_) <;> first | exact bch | exact bcl)); have hs1 : w.heap.size ≤ w1.heap.size := HA1.out.size; clear b1)
   | (go_at_call 86; (fail_if_success (have := HT2)); refine (HA.out _).mono ?_; rintro r w2 ⟨rfl, b2⟩; have HT2 : Hid True := trivial; have HA2 : Hid (Below w.heap.size w w2) := (by (refine Below.trans ?_ (b2.mono ?_) <;> first | exact bch | exact bcl)); have hs2 : w.heap.size ≤ w2.heap.size := HA2.out.size; clear b2)
   | (go_at_call 88; (fail_if_success (have := HT3)); refine (HE.out _ ?_).mono ?_; exact bch; rintro r w3 ⟨rfl, b3⟩; have HT3 : Hid True := trivial; have HA3 : Hid (Below w.heap.size w w3) := (by (refine Below.trans ?_ (b3.mono ?_) <;> first | exact bch | exact bcl)); have hs3 : w.heap.size ≤ w3.heap.size := HA3.out.size; clear b3))
 all_goals
  go_wp2
  go_ret
  exact ⟨by simp, HA3.out⟩
def alAt (ops : List BlkD) (f : Int) : List Int := ((ops[ops.length - 1 - f.toNat]?).map fun b => b.along.xs).getD []
theorem alAt_eq (ops : List BlkD) (f : Int) (i : Nat) (hi : i < ops.length) (hf : f = (ops.length : Int) - 1 - (i : Int)) : alAt ops f = (ops[i]).along.xs := by
 unfold alAt
 have e : ops.length - 1 - f.toNat = i := by omega
 rw [e, List.getElem?_eq_getElem hi]
 rfl
def allowedK (m : ModD) (ops : List BlkD) (op a : Int) (xs : List Int) : Bool :=
 if op = 36 then (m.globals[a.toNat]?).any (fun d => d.m) else if op = 14 then !(xs.any fun f => !(alAt ops f == alAt ops a)) else true
theorem allowed_36 (N P : Nat) (m : ModD) (L : NumD) (so : Option Addr) (sc : Nat) (oo : Option Addr) (oc : Nat) (st : List Int) (ops : List BlkD) (bad : Bool) (a b : Int) (xo : Option Addr) (n cap : Nat) (xs : List Int) (w : World) (h : TK w N P (trkM m L) so sc oo oc st ops bad) (hg : RowsOf w 3 GloD.cells GloD.ok m.oG m.cG m.globals) (ha0 : 0 ≤ a) (ha1 : a < (m.globals.length : Int)) :
  Calls Tryz.prog 53 #[.pointer (some ⟨P, 0, none⟩), .agg #[.int .u8 36, .int .i64 a, .int .i64 b, .slice xo n cap]] w fun r w' => r = .returned (.bool ((m.globals[a.toNat]?).any (fun d => d.m))) ∧ Below w.heap.size w w' := by
 have hb2 : Below w.heap.size w ((w.alloc (.cells #[.pointer (some ⟨P, 0, none⟩)] 72)).alloc (.cells #[.int .u8 36, .int .i64 a, .int .i64 b, .slice xo n cap] 53)) := ((Below.refl _ _).alloc (Nat.le_refl _) _).alloc (by simp) _
 have HB2 : Hid (type_of% hb2) := hb2
 have hi : a.toNat < m.globals.length := by omega
 have hcm := hg.most
 have hcl := hg.le
 unfold maxLen at hcm
 obtain ⟨bb, ff, ho, hbN, hc⟩ := hg.cellAt (fun e => by rw [e] at hi; exact absurd hi (by simp))
 have e9 := hc _ hb2 _ hi 1 (by omega)
 rw [List.getElem?_eq_getElem hi]
 rw [getElem!_pos m.globals _ hi] at e9
 generalize m.globals[a.toNat] = d at *
 have e1 : ((w.alloc (.cells #[.pointer (some ⟨P, 0, none⟩)] 72)).alloc (.cells #[.int .u8 36, .int .i64 a, .int .i64 b, .slice xo n cap] 53)).cell? ⟨bb, ff + a.toNat * 3 + 1, none⟩ = some (.bool d.m) := e9
 have k6 : ((w.alloc (.cells #[.pointer (some ⟨P, 0, none⟩)] 72)).alloc (.cells #[.int .u8 36, .int .i64 a, .int .i64 b, .slice xo n cap] 53)).cell? ⟨P, 6, none⟩ = some (.slice m.oG m.globals.length m.cG) := (h.below hb2).k 6 (by omega)
 rw [ho] at k6
 clear hc h hb2 hg ho e9
 go_enter Tryz.func53, Tryz.ntmps53
 go_wp2
 go_region
 go_wp2
 refine bodyPost_ret (results_tmp rfl _ _ _) rfl ?_
 exact ⟨by simp, HB2.out.drew⟩
theorem allowed_14 (N P : Nat) (m : ModD) (L : NumD) (so : Option Addr) (sc : Nat) (oo : Option Addr) (oc : Nat) (st : List Int) (ops : List BlkD) (bad : Bool) (a b : Int) (xo : Option Addr) (n cap : Nat) (xs : List Int) (w : World) (h : TK w N P (trkM m L) so sc oo oc st ops bad) (hl : xs.length = n) (hcap : n ≤ cap) (hcm : cap ≤ 9223372036854775807) (hat : LJ1 w xo xs) (ha0 : 0 ≤ a) (ha1 : a < (ops.length : Int)) (hx : ∀ x ∈ xs, 0 ≤ x ∧ x < (ops.length : Int)) :
  Calls Tryz.prog 53 #[.pointer (some ⟨P, 0, none⟩), .agg #[.int .u8 14, .int .i64 a, .int .i64 b, .slice xo n cap]] w fun r w' => r = .returned (.bool (!(xs.any fun f => !(alAt ops f == alAt ops a)))) ∧ Below w.heap.size w w' := by
 have hb2 : Below w.heap.size w ((w.alloc (.cells #[.pointer (some ⟨P, 0, none⟩)] 72)).alloc (.cells #[.int .u8 14, .int .i64 a, .int .i64 b, .slice xo n cap] 53)) := ((Below.refl _ _).alloc (Nat.le_refl _) _).alloc (by simp) _
 have HB2 : Hid (type_of% hb2) := hb2
 have hi : ops.length - 1 - a.toNat < ops.length := by omega
 have hia : a = (ops.length : Int) - 1 - ((ops.length - 1 - a.toNat : Nat) : Int) := by omega
 have HO : Hid (type_of% (vout N P (trkM m L) so sc oo oc st ops bad a ((w.alloc (.cells #[.pointer (some ⟨P, 0, none⟩)] 72)).alloc (.cells #[.int .u8 14, .int .i64 a, .int .i64 b, .slice xo n cap] 53)) (h.below hb2) _ hi hia)) := vout N P (trkM m L) so sc oo oc st ops bad a ((w.alloc (.cells #[.pointer (some ⟨P, 0, none⟩)] 72)).alloc (.cells #[.int .u8 14, .int .i64 a, .int .i64 b, .slice xo n cap] 53)) (h.below hb2) _ hi hia
 have HAA : Hid (alAt ops a = (ops[ops.length - 1 - a.toNat]).along.xs) := alAt_eq ops a _ hi hia
 have hk := h.kin (ops[ops.length - 1 - a.toNat]) (List.getElem_mem hi)
 generalize ops[ops.length - 1 - a.toNat] = bl at *
 have HAL : Hid (∀ w', Calls Tryz.prog 86 #[.agg #[.int .u8 bl.op, .slice bl.ks.o bl.ks.n bl.ks.cap, .int .i64 (bl.base : Int), .bool bl.dead]] w' fun r w'' => r = .returned (.slice bl.along.o bl.along.n bl.along.cap) ∧ Below w'.heap.size w' w'') := fun w' => valong bl w'
 have HC : Hid (∀ w', Below w.heap.size w w' → w'.cell? ⟨w.heap.size, 0, none⟩ = some (.pointer (some ⟨P, 0, none⟩)) → ∀ Y, w'.cell? ⟨Y, 0, none⟩ = some (.slice bl.along.o bl.along.n bl.along.cap) → Y < w'.heap.size → w.heap.size < w'.heap.size → Calls Tryz.prog 78 #[.slice xo n cap, .func (.func 87) #[] #[.pointer (some ⟨w.heap.size, 0, none⟩), .pointer (some ⟨Y, 0, none⟩)]] w' fun r w'' => r = .returned (.bool (xs.any fun f => !(alAt ops f == alAt ops a))) ∧ Below w'.heap.size w' w'') := fun w' b' q Y hY hY1 hw1 => contains_allowed w.heap.size Y (fun f => !(alAt ops f == alAt ops a)) xo n cap xs w' hl hcap hcm (hat.below b') (fun w'' b'' x hxm => by
   have hxb := hx x hxm
   have hi2 : ops.length - 1 - x.toNat < ops.length := by omega
   have hia2 : x = (ops.length : Int) - 1 - ((ops.length - 1 - x.toNat : Nat) : Int) := by omega
   have := allowed_cl N P w.heap.size Y (trkM m L) so sc oo oc st ops bad bl.along x w'' ((h.below b').below b'') ((b''.cell (p := ⟨w.heap.size, 0, none⟩) hw1).trans q) (Nat.lt_of_lt_of_le hw1 b''.size) ((b''.cell (p := ⟨Y, 0, none⟩) hY1).trans hY) (Nat.lt_of_lt_of_le hY1 b''.size) ((along_ok hk.1).below (b'.trans (b''.mono b'.size))) _ hi2 hia2
   rw [← alAt_eq ops x _ hi2 hia2, ← HAA.out] at this
   exact this)
 have q0 : ((w.alloc (.cells #[.pointer (some ⟨P, 0, none⟩)] 72)).alloc (.cells #[.int .u8 14, .int .i64 a, .int .i64 b, .slice xo n cap] 53)).cell? ⟨w.heap.size, 0, none⟩ = some (.pointer (some ⟨P, 0, none⟩)) := by
  have hz : Below (w.heap.size + 1) (w.alloc (.cells #[.pointer (some ⟨P, 0, none⟩)] 72)) ((w.alloc (.cells #[.pointer (some ⟨P, 0, none⟩)] 72)).alloc (.cells #[.int .u8 14, .int .i64 a, .int .i64 b, .slice xo n cap] 53)) := (Below.refl _ _).alloc (by simp) _
  rw [hz.cell (p := ⟨w.heap.size, 0, none⟩) (by show w.heap.size < w.heap.size + 1; omega)]
  exact cell_one_new w (.pointer (some ⟨P, 0, none⟩)) 72 0 _ rfl
 have q1 := new_block (w.alloc (.cells #[.pointer (some ⟨P, 0, none⟩)] 72)) (.cells #[.int .u8 14, .int .i64 a, .int .i64 b, .slice xo n cap] 53)
 rw [show (w.alloc (.cells #[.pointer (some ⟨P, 0, none⟩)] 72)).heap.size = w.heap.size + 1 by simp] at q1
 have HQ : Hid (((w.alloc (.cells #[.pointer (some ⟨P, 0, none⟩)] 72)).alloc (.cells #[.int .u8 14, .int .i64 a, .int .i64 b, .slice xo n cap] 53)).cell? ⟨w.heap.size, 0, none⟩ = some (.pointer (some ⟨P, 0, none⟩)) ∧ ((w.alloc (.cells #[.pointer (some ⟨P, 0, none⟩)] 72)).alloc (.cells #[.int .u8 14, .int .i64 a, .int .i64 b, .slice xo n cap] 53)).heap[w.heap.size + 1]? = some (.cells #[.int .u8 14, .int .i64 a, .int .i64 b, .slice xo n cap] 53 (0, 0)) ∧ ((w.alloc (.cells #[.pointer (some ⟨P, 0, none⟩)] 72)).alloc (.cells #[.int .u8 14, .int .i64 a, .int .i64 b, .slice xo n cap] 53)).heap.size = w.heap.size + 2) := ⟨q0, q1, by simp⟩
 generalize (xs.any fun f => !(alAt ops f == alAt ops a)) = any at *
 clear h hk hi hia hat hl hx hb2 q0 q1
 obtain ⟨v, hv⟩ : ∃ v, v = ((w.alloc (.cells #[.pointer (some ⟨P, 0, none⟩)] 72)).alloc (.cells #[.int .u8 14, .int .i64 a, .int .i64 b, .slice xo n cap] 53)) := ⟨_, rfl⟩
 have HV : Hid (v = ((w.alloc (.cells #[.pointer (some ⟨P, 0, none⟩)] 72)).alloc (.cells #[.int .u8 14, .int .i64 a, .int .i64 b, .slice xo n cap] 53))) := hv
 rw [← hv] at HQ HB2 HO
 clear hv
 go_enter Tryz.func53, Tryz.ntmps53
 go_wp2_with fail
 rw [← HV.out]
 refine HO.out.mono ?_
 rintro r w1 ⟨rfl, hb1⟩
 have HB3 : Hid (Below v.heap.size v w1) := hb1
 clear hb1 HO
 go_wp2_with fail
 refine (HAL.out _).mono ?_
 rintro r w2 ⟨rfl, hb4⟩
 have HB4 : Hid (Below v.heap.size v w2) := HB3.out.trans (hb4.mono HB3.out.size)
 have bA : Below w2.heap.size w2 (w2.alloc (.cells #[.slice bl.along.o bl.along.n bl.along.cap] 41)) := (Below.refl _ _).alloc (Nat.le_refl _) _
 have hsz := HB4.out.size
 rw [HQ.out.2.2] at hsz
 have HB5 : Hid (Below v.heap.size v (w2.alloc (.cells #[.slice bl.along.o bl.along.n bl.along.cap] 41))) := HB4.out.trans (bA.mono HB4.out.size)
 have HB6 : Hid (Below w.heap.size w (w2.alloc (.cells #[.slice bl.along.o bl.along.n bl.along.cap] 41))) := HB2.out.trans (HB5.out.mono HB2.out.size)
 have hq3 : (w2.alloc (.cells #[.slice bl.along.o bl.along.n bl.along.cap] 41)).heap[w.heap.size + 1]? = some (.cells #[.int .u8 14, .int .i64 a, .int .i64 b, .slice xo n cap] 53 (0, 0)) := (HB5.out.block (w.heap.size + 1) (by rw [HQ.out.2.2]; omega)).trans HQ.out.2.1
 have x3 : (w2.alloc (.cells #[.slice bl.along.o bl.along.n bl.along.cap] 41)).cell? ⟨w.heap.size + 1, 3, none⟩ = some (.slice xo n cap) := cell_at hq3 3 rfl
 have HCC : Hid (type_of% (HC.out _ HB6.out ((HB5.out.cell (p := ⟨w.heap.size, 0, none⟩) (by rw [HQ.out.2.2]; show w.heap.size < w.heap.size + 2; omega)).trans HQ.out.1) w2.heap.size (cell_one_new w2 (.slice bl.along.o bl.along.n bl.along.cap) 41 0 _ rfl) (by simp) (by simp; omega))) := HC.out _ HB6.out ((HB5.out.cell (p := ⟨w.heap.size, 0, none⟩) (by rw [HQ.out.2.2]; show w.heap.size < w.heap.size + 2; omega)).trans HQ.out.1) w2.heap.size (cell_one_new w2 (.slice bl.along.o bl.along.n bl.along.cap) 41 0 _ rfl) (by simp) (by simp; omega)
 clear bA hb4 hsz hq3 HC HAL HB3 HB4 HB5
 go_wp2_with fail
 refine HCC.out.mono ?_
 rintro r w3 ⟨rfl, hb7⟩
 have HB7 : Hid (Below w.heap.size w w3) := HB6.out.trans (hb7.mono HB6.out.size)
 clear hb7 HCC x3
 go_wp2
 refine bodyPost_ret (results_tmp rfl _ _ _) rfl ?_
 exact ⟨by simp, HB7.out⟩
theorem allowed_other (op : Int) (N P : Nat) (m : ModD) (L : NumD) (so : Option Addr) (sc : Nat) (oo : Option Addr) (oc : Nat) (st : List Int) (ops : List BlkD) (bad : Bool) (a b : Int) (xo : Option Addr) (n cap : Nat) (xs : List Int) (w : World) (h : TK w N P (trkM m L) so sc oo oc st ops bad) (h36 : op ≠ 36) (h14 : op ≠ 14) :
  Calls Tryz.prog 53 #[.pointer (some ⟨P, 0, none⟩), .agg #[.int .u8 op, .int .i64 a, .int .i64 b, .slice xo n cap]] w fun r w' => r = .returned (.bool true) ∧ Below w.heap.size w w' := by
 have hb2 : Below w.heap.size w ((w.alloc (.cells #[.pointer (some ⟨P, 0, none⟩)] 72)).alloc (.cells #[.int .u8 op, .int .i64 a, .int .i64 b, .slice xo n cap] 53)) := ((Below.refl _ _).alloc (Nat.le_refl _) _).alloc (by simp) _
 have HB2 : Hid (type_of% hb2) := hb2
 have b1 : (op == 36) = false := by simp [h36]
 have b2 : (op == 14) = false := by simp [h14]
 clear h hb2 h36 h14
 go_enter Tryz.func53, Tryz.ntmps53
 go_wp2
 refine bodyPost_ret (results_tmp rfl _ _ _) rfl ?_
 exact ⟨rfl, HB2.out⟩
theorem allowed_any (op : Int) (N P : Nat) (m : ModD) (L : NumD) (so : Option Addr) (sc : Nat) (oo : Option Addr) (oc : Nat) (st : List Int) (ops : List BlkD) (bad : Bool) (a b : Int) (xo : Option Addr) (n cap : Nat) (xs : List Int) (w : World) (h : TK w N P (trkM m L) so sc oo oc st ops bad) (hg : RowsOf w 3 GloD.cells GloD.ok m.oG m.cG m.globals) (hl : xs.length = n) (hcap : n ≤ cap) (hcm : cap ≤ 9223372036854775807) (hat : LJ1 w xo xs) (ha0 : 0 ≤ a) (hx0 : ∀ x ∈ xs, 0 ≤ x) (ht : thereK m L.n ops.length op a xs = true) :
  Calls Tryz.prog 53 #[.pointer (some ⟨P, 0, none⟩), .agg #[.int .u8 op, .int .i64 a, .int .i64 b, .slice xo n cap]] w fun r w' => r = .returned (.bool (allowedK m ops op a xs)) ∧ Below w.heap.size w w' := by
 unfold allowedK
 by_cases h36 : op = 36
 ·rw [if_pos h36]
  subst h36
  exact allowed_36 N P m L so sc oo oc st ops bad a b xo n cap xs w h hg ha0 (by simpa [thereK] using ht)
 ·rw [if_neg h36]
  by_cases h14 : op = 14
  ·rw [if_pos h14]
   subst h14
   have ht2 : decide (a < (ops.length : Int)) = true ∧ (!(xs.any fun f => !decide (f < (ops.length : Int)))) = true := by
    have : (decide (a < (ops.length : Int)) && !(xs.any fun f => !decide (f < (ops.length : Int)))) = true := ht
    exact Bool.and_eq_true_iff.1 this
   have hx1 : ∀ x ∈ xs, x < (ops.length : Int) := fun x hx => by
    have h2 := ht2.2
    rw [Bool.not_eq_true', List.any_eq_false] at h2
    have := h2 x hx
    simpa using this
   exact allowed_14 N P m L so sc oo oc st ops bad a b xo n cap xs w h hl hcap hcm hat ha0 (of_decide_eq_true ht2.1) (fun x hx => ⟨hx0 x hx, hx1 x hx⟩)
  ·rw [if_neg h14]
   exact allowed_other op N P m L so sc oo oc st ops bad a b xo n cap xs w h h36 h14
end Go.Proofs.YtlfihndbnaaodaaGreatDoor
