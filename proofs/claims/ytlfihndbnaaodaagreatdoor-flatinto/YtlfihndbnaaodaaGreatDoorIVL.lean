/-
 The program's own begin.
 Going through a body, as reckoning over values: what stays true, and what is said at the end.
 One step through a body, with all that stays true; the program's own firstWrong.
-/
import Derived.Test.YtlfihndbnaaodaaGreatDoorIVK
set_option maxHeartbeats 4000000
set_option maxRecDepth 1000000
namespace Go.Proofs.YtlfihndbnaaodaaGreatDoor
open Go.RowKit
set_option linter.unusedVariables false
theorem new_block' (w : World) (cs : Array Value) (t : TypeId) (X : Nat) (h : X = w.heap.size) : (w.alloc (.cells cs t)).heap[X]? = some (.cells cs t (0, 0)) := by
 subst h
 exact new_block _ _
theorem old_block' (w : World) (o : Obj) (X : Nat) (h : X < w.heap.size) {x : Option Obj} (hx : w.heap[X]? = x) : (w.alloc o).heap[X]? = x := (Below.heap_alloc _ _ _ h).trans hx
theorem begin_tk (m : ModD) {io ro lo : Option Addr} {iN ic rN rc ln lc : Nat} {ix rx lx : List Int} {w w1 w' : World} {co : Option Addr} {cc B P g : Nat}
  (hso : (⟨io, iN, ic, ix⟩ : NumD).ok .u8 w ∧ (⟨ro, rN, rc, rx⟩ : NumD).ok .u8 w ∧ (⟨lo, ln, lc, lx⟩ : NumD).ok .u8 w ∧ rN ≤ 10)
  (how : w1.ownsRow B 69 1 (.slice co (iN + ln) cc) (iN + ln) ((ix ++ lx).map (Value.int .u8)))
  (b : Below w.heap.size w w') (b1 : Below w1.heap.size w1 w')
  (hP : w'.heap[P]? = some (.cells #[.slice m.oT m.types.length m.cT, .slice m.oI m.imports.length m.cI, .slice m.oF m.funcs.length m.cF, .int .i64 m.table, .int .i64 m.pages, .int .i64 m.most, .slice m.oG m.globals.length m.cG, .slice m.oE m.exports.length m.cE, .int .i64 m.start, .slice m.oL m.elems.length m.cL, .slice m.oD m.data.length m.cD, .slice co (iN + ln) cc, .slice none 0 0, .slice (some ⟨g, 0, none⟩) 1 1, .bool false] 110 (0, 0))) (hg : w'.heap[g]? = some (.cells #[.int .u8 2, .slice ro rN rc, .int .i64 0, .bool false] 107 (0, 0)))
  (hgw : w.heap.size ≤ g) (hPw : w.heap.size ≤ P) (hPo : w1.heap.size ≤ P) (hgo : g < B ∨ w1.heap.size ≤ g) :
  ∃ (P' : Nat) (L : NumD) (g' : Nat) (bl : BlkD), Ending.returned (.pointer (some ⟨P, 0, none⟩)) = .returned (.pointer (some ⟨P', 0, none⟩)) ∧ TK w' w.heap.size P' (trkM m L) none 0 (some ⟨g', 0, none⟩) 1 [] ([] ++ [bl]) false ∧ L.ok .u8 w' ∧ offRow P' none (some ⟨g', 0, none⟩) L ∧ L.xs = ix ++ lx ∧ bl.val = ⟨2, rx, 0, false⟩ ∧ bl.ks.n ≤ 10 ∧ Below w.heap.size w w' := by
 obtain ⟨hi, hr, hl, hr10⟩ := hso
 have hn := num_of_own how (fun x hx => by
  rcases List.mem_append.1 hx with h | h
  ·exact hi.wf x h
  ·exact hl.wf x h)
 refine ⟨P, ⟨co, iN + ln, cc, ix ++ lx⟩, g, ⟨2, ⟨ro, rN, rc, rx⟩, 0, false⟩, rfl, ⟨hP, ⟨rfl, Or.inl ⟨rfl, rfl⟩⟩, ⟨rfl, Or.inr ⟨g, 1, _, rfl, hgw, hg, Nat.le_refl _, by unfold maxLen; omega, rfl, rfl⟩⟩, fun x hx => ?_, hPw⟩, hn.1.below b1, ?_, rfl, rfl, hr10, b⟩
 ·obtain rfl : x = ⟨2, ⟨ro, rN, rc, rx⟩, 0, false⟩ := by simpa using hx
  refine ⟨hr.below b, ?_⟩
  rcases hr.at' with h0 | ⟨a, h1, h2, _⟩
  ·exact Or.inl h0
  ·exact Or.inr ⟨a, h1, by omega, (fun g e => by cases e), (fun g' e => by cases e; show a.block ≠ g; omega)⟩
 ·rcases hn.2 with h0 | ⟨a, h1, h2⟩
  ·exact Or.inl h0
  ·rcases hn.1.at' with h0 | ⟨a', h3, h4, _⟩
   ·exact Or.inl h0
   ·obtain rfl : a' = a := by
     have e := h3.symm.trans h1
     exact Option.some.inj e
    exact Or.inr ⟨a', h1, by omega, (fun g e => by cases e), (fun g' e => by cases e; show a'.block ≠ g; omega)⟩
theorem vbegin (m : ModD) (ft : Int) (Ld : NumD) (bo : Option Addr) (bn bc : Nat) (w : World) (hm : m.ok w) (hf0 : 0 ≤ ft) (hf1 : ft < (m.types.length : Int)) (hLd : Ld.ok .u8 w) (hLn : Ld.n ≤ 16) (hty : ∀ d ∈ m.types, d.i.n ≤ 16 ∧ d.r.n ≤ 10) :
  Calls Tryz.prog 25 #[.agg #[.slice m.oT m.types.length m.cT, .slice m.oI m.imports.length m.cI, .slice m.oF m.funcs.length m.cF, .int .i64 m.table, .int .i64 m.pages, .int .i64 m.most, .slice m.oG m.globals.length m.cG, .slice m.oE m.exports.length m.cE, .int .i64 m.start, .slice m.oL m.elems.length m.cL, .slice m.oD m.data.length m.cD], .agg #[.int .i64 ft, .slice Ld.o Ld.n Ld.cap, .slice bo bn bc]] w fun r w' => ∃ (P : Nat) (L : NumD) (g : Nat) (bl : BlkD), r = .returned (.pointer (some ⟨P, 0, none⟩)) ∧ TK w' w.heap.size P (trkM m L) none 0 (some ⟨g, 0, none⟩) 1 [] ([] ++ [bl]) false ∧ L.ok .u8 w' ∧ offRow P none (some ⟨g, 0, none⟩) L ∧ L.xs = (m.types[ft.toNat]!).i.xs ++ Ld.xs ∧ bl.val = ⟨2, (m.types[ft.toNat]!).r.xs, 0, false⟩ ∧ bl.ks.n ≤ 10 ∧ Below w.heap.size w w' := by
 have hi : ft.toNat < m.types.length := by omega
 have hcm := hm.types.most
 have hcl := hm.types.le
 unfold maxLen at hcm
 obtain ⟨bb, ff, ho, hbN, hc⟩ := hm.types.cellAt (fun e => by rw [e] at hi; exact absurd hi (by simp))
 have hso := hm.types.all _ (List.getElem_mem hi)
 have hsm := hty _ (List.getElem_mem hi)
 rw [← getElem!_pos m.types _ hi] at hso hsm
 obtain ⟨lo, ln, lc, lx⟩ := Ld
 have hb2 : Below w.heap.size w ((w.alloc (.cells #[.slice m.oT m.types.length m.cT, .slice m.oI m.imports.length m.cI, .slice m.oF m.funcs.length m.cF, .int .i64 m.table, .int .i64 m.pages, .int .i64 m.most, .slice m.oG m.globals.length m.cG, .slice m.oE m.exports.length m.cE, .int .i64 m.start, .slice m.oL m.elems.length m.cL, .slice m.oD m.data.length m.cD] 30)).alloc (.cells #[.int .i64 ft, .slice lo ln lc, .slice bo bn bc] 59)) := ((Below.refl _ _).alloc (Nat.le_refl _) _).alloc (by simp) _
 have hcc := hc _ hb2 _ hi
 generalize m.types[ft.toNat]! = d at *
 obtain ⟨⟨io, iN, ic, ix⟩, ⟨ro, rN, rc, rx⟩⟩ := d
 dsimp only at hsm hLn
 have e0 : ((w.alloc (.cells #[.slice m.oT m.types.length m.cT, .slice m.oI m.imports.length m.cI, .slice m.oF m.funcs.length m.cF, .int .i64 m.table, .int .i64 m.pages, .int .i64 m.most, .slice m.oG m.globals.length m.cG, .slice m.oE m.exports.length m.cE, .int .i64 m.start, .slice m.oL m.elems.length m.cL, .slice m.oD m.data.length m.cD] 30)).alloc (.cells #[.int .i64 ft, .slice lo ln lc, .slice bo bn bc] 59)).cell? ⟨bb, ff + ft.toNat * 2, none⟩ = some (.slice io iN ic) := hcc 0 (by omega)
 have e1 : ((w.alloc (.cells #[.slice m.oT m.types.length m.cT, .slice m.oI m.imports.length m.cI, .slice m.oF m.funcs.length m.cF, .int .i64 m.table, .int .i64 m.pages, .int .i64 m.most, .slice m.oG m.globals.length m.cG, .slice m.oE m.exports.length m.cE, .int .i64 m.start, .slice m.oL m.elems.length m.cL, .slice m.oD m.data.length m.cD] 30)).alloc (.cells #[.int .i64 ft, .slice lo ln lc, .slice bo bn bc] 59)).cell? ⟨bb, ff + ft.toNat * 2 + 1, none⟩ = some (.slice ro rN rc) := hcc 1 (by omega)
 have hb3 : Below w.heap.size w (((w.alloc (.cells #[.slice m.oT m.types.length m.cT, .slice m.oI m.imports.length m.cI, .slice m.oF m.funcs.length m.cF, .int .i64 m.table, .int .i64 m.pages, .int .i64 m.most, .slice m.oG m.globals.length m.cG, .slice m.oE m.exports.length m.cE, .int .i64 m.start, .slice m.oL m.elems.length m.cL, .slice m.oD m.data.length m.cD] 30)).alloc (.cells #[.int .i64 ft, .slice lo ln lc, .slice bo bn bc] 59)).alloc (.cells #[.slice io iN ic, .slice ro rN rc] 83)) := hb2.alloc (by simp; omega) _
 have HB3 : Hid (type_of% hb3) := hb3
 have q1 := new_block w (.cells #[.slice m.oT m.types.length m.cT, .slice m.oI m.imports.length m.cI, .slice m.oF m.funcs.length m.cF, .int .i64 m.table, .int .i64 m.pages, .int .i64 m.most, .slice m.oG m.globals.length m.cG, .slice m.oE m.exports.length m.cE, .int .i64 m.start, .slice m.oL m.elems.length m.cL, .slice m.oD m.data.length m.cD] 30)
 have q2 := new_block (w.alloc (.cells #[.slice m.oT m.types.length m.cT, .slice m.oI m.imports.length m.cI, .slice m.oF m.funcs.length m.cF, .int .i64 m.table, .int .i64 m.pages, .int .i64 m.most, .slice m.oG m.globals.length m.cG, .slice m.oE m.exports.length m.cE, .int .i64 m.start, .slice m.oL m.elems.length m.cL, .slice m.oD m.data.length m.cD] 30)) (.cells #[.int .i64 ft, .slice lo ln lc, .slice bo bn bc] 59)
 have q3 := new_block ((w.alloc (.cells #[.slice m.oT m.types.length m.cT, .slice m.oI m.imports.length m.cI, .slice m.oF m.funcs.length m.cF, .int .i64 m.table, .int .i64 m.pages, .int .i64 m.most, .slice m.oG m.globals.length m.cG, .slice m.oE m.exports.length m.cE, .int .i64 m.start, .slice m.oL m.elems.length m.cL, .slice m.oD m.data.length m.cD] 30)).alloc (.cells #[.int .i64 ft, .slice lo ln lc, .slice bo bn bc] 59)) (.cells #[.slice io iN ic, .slice ro rN rc] 83)
 have z1 : (w.alloc (.cells #[.slice m.oT m.types.length m.cT, .slice m.oI m.imports.length m.cI, .slice m.oF m.funcs.length m.cF, .int .i64 m.table, .int .i64 m.pages, .int .i64 m.most, .slice m.oG m.globals.length m.cG, .slice m.oE m.exports.length m.cE, .int .i64 m.start, .slice m.oL m.elems.length m.cL, .slice m.oD m.data.length m.cD] 30)).heap.size = w.heap.size + 1 := by simp
 have z2 : ((w.alloc (.cells #[.slice m.oT m.types.length m.cT, .slice m.oI m.imports.length m.cI, .slice m.oF m.funcs.length m.cF, .int .i64 m.table, .int .i64 m.pages, .int .i64 m.most, .slice m.oG m.globals.length m.cG, .slice m.oE m.exports.length m.cE, .int .i64 m.start, .slice m.oL m.elems.length m.cL, .slice m.oD m.data.length m.cD] 30)).alloc (.cells #[.int .i64 ft, .slice lo ln lc, .slice bo bn bc] 59)).heap.size = w.heap.size + 2 := by simp
 have z3 : (((w.alloc (.cells #[.slice m.oT m.types.length m.cT, .slice m.oI m.imports.length m.cI, .slice m.oF m.funcs.length m.cF, .int .i64 m.table, .int .i64 m.pages, .int .i64 m.most, .slice m.oG m.globals.length m.cG, .slice m.oE m.exports.length m.cE, .int .i64 m.start, .slice m.oL m.elems.length m.cL, .slice m.oD m.data.length m.cD] 30)).alloc (.cells #[.int .i64 ft, .slice lo ln lc, .slice bo bn bc] 59)).alloc (.cells #[.slice io iN ic, .slice ro rN rc] 83)).heap.size = w.heap.size + 3 := by simp
 rw [z1] at q2
 rw [z2] at q3
 have HS : Hid (∀ w', Below (((w.alloc (.cells #[.slice m.oT m.types.length m.cT, .slice m.oI m.imports.length m.cI, .slice m.oF m.funcs.length m.cF, .int .i64 m.table, .int .i64 m.pages, .int .i64 m.most, .slice m.oG m.globals.length m.cG, .slice m.oE m.exports.length m.cE, .int .i64 m.start, .slice m.oL m.elems.length m.cL, .slice m.oD m.data.length m.cD] 30)).alloc (.cells #[.int .i64 ft, .slice lo ln lc, .slice bo bn bc] 59)).alloc (.cells #[.slice io iN ic, .slice ro rN rc] 83)).heap.size (((w.alloc (.cells #[.slice m.oT m.types.length m.cT, .slice m.oI m.imports.length m.cI, .slice m.oF m.funcs.length m.cF, .int .i64 m.table, .int .i64 m.pages, .int .i64 m.most, .slice m.oG m.globals.length m.cG, .slice m.oE m.exports.length m.cE, .int .i64 m.start, .slice m.oL m.elems.length m.cL, .slice m.oD m.data.length m.cD] 30)).alloc (.cells #[.int .i64 ft, .slice lo ln lc, .slice bo bn bc] 59)).alloc (.cells #[.slice io iN ic, .slice ro rN rc] 83)) w' → w'.cell? ⟨w.heap.size, 0, none⟩ = some (.slice m.oT m.types.length m.cT) ∧ w'.cell? ⟨w.heap.size, 1, none⟩ = some (.slice m.oI m.imports.length m.cI) ∧ w'.cell? ⟨w.heap.size, 2, none⟩ = some (.slice m.oF m.funcs.length m.cF) ∧ w'.cell? ⟨w.heap.size, 3, none⟩ = some (.int .i64 m.table) ∧ w'.cell? ⟨w.heap.size, 4, none⟩ = some (.int .i64 m.pages) ∧ w'.cell? ⟨w.heap.size, 5, none⟩ = some (.int .i64 m.most) ∧ w'.cell? ⟨w.heap.size, 6, none⟩ = some (.slice m.oG m.globals.length m.cG) ∧ w'.cell? ⟨w.heap.size, 7, none⟩ = some (.slice m.oE m.exports.length m.cE) ∧ w'.cell? ⟨w.heap.size, 8, none⟩ = some (.int .i64 m.start) ∧ w'.cell? ⟨w.heap.size, 9, none⟩ = some (.slice m.oL m.elems.length m.cL) ∧ w'.cell? ⟨w.heap.size, 10, none⟩ = some (.slice m.oD m.data.length m.cD) ∧ w'.cell? ⟨w.heap.size + 1, 1, none⟩ = some (.slice lo ln lc) ∧ w'.cell? ⟨w.heap.size + 2, 0, none⟩ = some (.slice io iN ic) ∧ w'.cell? ⟨w.heap.size + 2, 1, none⟩ = some (.slice ro rN rc)) := fun w' bz => by
  have a3 := (bz.block (w.heap.size + 2) (by rw [z3]; omega)).trans q3
  have a2 := (bz.block (w.heap.size + 1) (by rw [z3]; omega)).trans ((Below.heap_alloc _ _ _ (by rw [z2]; omega)).trans q2)
  have a1 := (bz.block w.heap.size (by rw [z3]; omega)).trans ((Below.heap_alloc _ _ _ (by rw [z2]; omega)).trans ((Below.heap_alloc _ _ _ (by rw [z1]; omega)).trans q1))
  exact ⟨cell_at a1 0 rfl, cell_at a1 1 rfl, cell_at a1 2 rfl, cell_at a1 3 rfl, cell_at a1 4 rfl, cell_at a1 5 rfl, cell_at a1 6 rfl, cell_at a1 7 rfl, cell_at a1 8 rfl, cell_at a1 9 rfl, cell_at a1 10 rfl, cell_at a2 1 rfl, cell_at a3 0 rfl, cell_at a3 1 rfl⟩
 have HCC : Hid (∀ X W, Below w.heap.size w W → X < W.heap.size → W.heap[X]? = some (.cells #[.slice io iN ic, .slice lo ln lc] 41 (0, 0)) → Calls Tryz.prog 46 #[.slice (some ⟨X, 0, none⟩) 2 2] W fun r w' => ∃ (o : Option Addr) (cap : Nat), r = .returned (.slice o (iN + ln) cap) ∧ w'.ownsRow W.heap.size 69 1 (.slice o (iN + ln) cap) (iN + ln) ((ix ++ lx).map (Value.int .u8)) ∧ Below W.heap.size W w') := fun X W bz hX hx => vconcat X ⟨io, iN, ic, ix⟩ ⟨lo, ln, lc, lx⟩ W hX (cell_at hx 0 rfl) (cell_at hx 1 rfl) (hso.1.below bz) (hLd.below bz) (by show iN ≤ 1000; omega) (by show ln ≤ 1000; omega)
 have HSO : Hid ((⟨io, iN, ic, ix⟩ : NumD).ok .u8 w ∧ (⟨ro, rN, rc, rx⟩ : NumD).ok .u8 w ∧ (⟨lo, ln, lc, lx⟩ : NumD).ok .u8 w ∧ rN ≤ 10) := ⟨hso.1, hso.2, hLd, hsm.2⟩
 obtain ⟨v, hv⟩ : ∃ v, v = (((w.alloc (.cells #[.slice m.oT m.types.length m.cT, .slice m.oI m.imports.length m.cI, .slice m.oF m.funcs.length m.cF, .int .i64 m.table, .int .i64 m.pages, .int .i64 m.most, .slice m.oG m.globals.length m.cG, .slice m.oE m.exports.length m.cE, .int .i64 m.start, .slice m.oL m.elems.length m.cL, .slice m.oD m.data.length m.cD] 30)).alloc (.cells #[.int .i64 ft, .slice lo ln lc, .slice bo bn bc] 59)).alloc (.cells #[.slice io iN ic, .slice ro rN rc] 83)) := ⟨_, rfl⟩
 have HV : Hid (v = (((w.alloc (.cells #[.slice m.oT m.types.length m.cT, .slice m.oI m.imports.length m.cI, .slice m.oF m.funcs.length m.cF, .int .i64 m.table, .int .i64 m.pages, .int .i64 m.most, .slice m.oG m.globals.length m.cG, .slice m.oE m.exports.length m.cE, .int .i64 m.start, .slice m.oL m.elems.length m.cL, .slice m.oD m.data.length m.cD] 30)).alloc (.cells #[.int .i64 ft, .slice lo ln lc, .slice bo bn bc] 59)).alloc (.cells #[.slice io iN ic, .slice ro rN rc] 83))) := hv
 have hvs : v.heap.size = w.heap.size + 3 := by rw [hv]; exact z3
 have HVS : Hid (v.heap.size = w.heap.size + 3 ∧ w.heap.size ≤ v.heap.size) := ⟨hvs, by omega⟩
 rw [← hv] at HS HB3
 have HSv := HS.out v (Below.refl _ _)
 rw [hv] at HSv
 obtain ⟨f0, f1, f2, f3, f4, f5, f6, f7, f8, f9, f10, g1, g2, g3⟩ := HSv
 have HOT : Hid (m.oT = some ⟨bb, ff, none⟩) := ho
 clear hc hcc hso hsm hLd hb2 hb3 q1 q2 q3 z1 z2 z3 hv hm hty hvs
 rw [ho] at e0 e1 f0 f1 f2 f3 f4 f5 f6 f7 f8 f9 f10 g1 g2 g3 HS HV
 rw [ho]
 clear ho
 go_enter Tryz.func25, Tryz.ntmps25
 go_wp2
 rw [← HV.out]
 go_region_held3 (fun w' => w'.cell? ⟨w.heap.size, 0, none⟩ = some (.slice (some ⟨bb, ff, none⟩) m.types.length m.cT) ∧ w'.cell? ⟨w.heap.size, 1, none⟩ = some (.slice m.oI m.imports.length m.cI) ∧ w'.cell? ⟨w.heap.size, 2, none⟩ = some (.slice m.oF m.funcs.length m.cF) ∧ w'.cell? ⟨w.heap.size, 3, none⟩ = some (.int .i64 m.table) ∧ w'.cell? ⟨w.heap.size, 4, none⟩ = some (.int .i64 m.pages) ∧ w'.cell? ⟨w.heap.size, 5, none⟩ = some (.int .i64 m.most) ∧ w'.cell? ⟨w.heap.size, 6, none⟩ = some (.slice m.oG m.globals.length m.cG) ∧ w'.cell? ⟨w.heap.size, 7, none⟩ = some (.slice m.oE m.exports.length m.cE) ∧ w'.cell? ⟨w.heap.size, 8, none⟩ = some (.int .i64 m.start) ∧ w'.cell? ⟨w.heap.size, 9, none⟩ = some (.slice m.oL m.elems.length m.cL) ∧ w'.cell? ⟨w.heap.size, 10, none⟩ = some (.slice m.oD m.data.length m.cD) ∧ w'.cell? ⟨w.heap.size + 1, 1, none⟩ = some (.slice lo ln lc) ∧ w'.cell? ⟨w.heap.size + 2, 0, none⟩ = some (.slice io iN ic) ∧ w'.cell? ⟨w.heap.size + 2, 1, none⟩ = some (.slice ro rN rc))
  (first | exact HS.out _ bch | go_keep)
  ((go_at_call 46; (fail_if_success (have := HT1)); refine (HCC.out _ _ (HB3.out.trans ((bch : Below v.heap.size v _).mono HVS.out.2)) (by simp <;> omega) (by first | (refine new_block' _ _ _ _ ?_; simp; done) | (refine old_block' _ _ _ ?_ (new_block' _ _ _ _ ?_) <;> simp <;> omega))).mono ?_; rintro r w1 ⟨co, cc, rfl, how, b1⟩; have HT1 : Hid True := trivial; have HA1 : Hid (Below v.heap.size v w1) := (by (refine Below.trans ?_ (b1.mono ?_) <;> first | exact bch | exact bcl)); have hs1 : v.heap.size ≤ w1.heap.size := HA1.out.size; have HOW : Hid (type_of% how) := how; have HBW : Hid (type_of% b1) := b1; clear b1 how))
 ·have HP9 : Hid True := trivial
  go_wp2
  refine bodyPost_ret (results_tmp rfl _ _ _) rfl ?_
  have hvz := HVS.out.1
  refine begin_tk m (P := w1.heap.size + 1) (g := w1.heap.size) HSO.out HOW.out (HB3.out.trans (((HA1.out.alloc hs1 _).alloc (by simp; omega) _).mono HVS.out.2)) (((Below.refl _ _).alloc (Nat.le_refl _) _).alloc (by simp) _) ?_ ?_ ?_ ?_ ?_ ?_
  ·rw [HOT.out]
   exact new_block' _ _ _ _ (by simp)
  ·exact old_block' _ _ _ (by simp) (new_block' _ _ _ _ rfl)
  ·omega
  ·omega
  ·omega
  ·first | (simp; done) | (simp; omega)
 ·have HP9 : Hid True := trivial
  go_wp2
  refine bodyPost_ret (results_tmp rfl _ _ _) rfl ?_
  have hvz := HVS.out.1
  refine begin_tk m (P := w1.heap.size) (g := v.heap.size + 1) HSO.out HOW.out (HB3.out.trans ((HA1.out.alloc hs1 _).mono HVS.out.2)) ((Below.refl _ _).alloc (Nat.le_refl _) _) ?_ ?_ ?_ ?_ ?_ ?_
  ·rw [HOT.out]
   exact new_block' _ _ _ _ (by simp)
  ·refine old_block' _ _ _ ?_ ((HBW.out.block _ ?_).trans (new_block' _ _ _ _ ?_))
   ·have hz9 := HBW.out.size
    simp at hz9
    omega
   ·simp
   ·simp
  ·omega
  ·omega
  ·omega
  ·first | (simp; done) | (simp; omega)
 ·have HP9 : Hid True := trivial
  go_wp2
  refine bodyPost_ret (results_tmp rfl _ _ _) rfl ?_
  have hvz := HVS.out.1
  refine begin_tk m (P := w1.heap.size) (g := v.heap.size) HSO.out HOW.out (HB3.out.trans ((HA1.out.alloc hs1 _).mono HVS.out.2)) ((Below.refl _ _).alloc (Nat.le_refl _) _) ?_ ?_ ?_ ?_ ?_ ?_
  ·rw [HOT.out]
   exact new_block' _ _ _ _ (by simp)
  ·refine old_block' _ _ _ ?_ ((HBW.out.block _ ?_).trans (old_block' _ _ _ ?_ (new_block' _ _ _ _ rfl)))
   ·have hz9 := HBW.out.size
    simp at hz9
    omega
   ·simp
    omega
   ·simp
  ·omega
  ·omega
  ·omega
  ·first | (simp; done) | (simp; omega)
end Go.Proofs.YtlfihndbnaaodaaGreatDoor
namespace Go.Proofs.YtlfihndbnaaodaaGreatDoor
open Go.RowKit
set_option linter.unusedVariables false
structure TrkV.ok (T : TrkV) (i : Nat) : Prop where
 len : T.st.length ≤ 20 * i
 bases : ∀ b ∈ T.ops, b.base ≤ T.st.length
 up : T.ops.Pairwise (fun a b => a.base ≤ b.base)
 ks : ∀ b ∈ T.ops, b.ks.length ≤ 10
theorem mod_small {w : World} {m : ModD} (hm : m.ok w) (h : mChk m = 0) : (∀ d ∈ m.types, d.i.n ≤ 4 ∧ d.r.n ≤ 1) ∧ ∀ d ∈ m.funcs, nChk d.b = 0 ∧ d.l.n ≤ 16 ∧ 0 ≤ d.t := by
 unfold mChk at h
 obtain ⟨h1, h⟩ := fstE_eq0 h
 obtain ⟨h2, h⟩ := fstE_eq0 h
 obtain ⟨h3, h⟩ := fstE_eq0 h
 have a1 := chkL_eq0 h1
 have a3 := chkL_eq0 h3
 refine ⟨fun d hd => ?_, fun d hd => ?_⟩
 ·have b1 := chkL_eq0 (fstE_eq0 (a1.2 d hd)).1
  have b2 := chkL_eq0 (fstE_eq0 (a1.2 d hd)).2
  have c := hm.types.all d hd
  have c1 := c.1.len
  have c2 := c.2.len
  exact ⟨by omega, by omega⟩
 ·have b := fstE_eq0 (a3.2 d hd)
  have b1 := fstE_eq0 b.1
  have c := chkL_eq0 b1.2
  have c1 := (hm.funcs.all d hd).2.1.len
  refine ⟨?_, by omega, (chkNum_eq0 b1.1).1⟩
  have := b.2
  unfold okE at this
  split at this
  ·rename_i e; exact eq_of_beq e
  ·exact this
theorem bang_len {LT : List SigD} (h : ∀ d ∈ LT, d.r.xs.length ≤ 10) (k : Nat) : (LT[k]!).r.xs.length ≤ 10 := by
 by_cases hk : k < LT.length
 ·rw [getElem!_pos LT k hk]; exact h _ (List.getElem_mem hk)
 ·rw [getElem!_neg LT k hk]; exact Nat.zero_le _
theorem along_len {b : BlkV} (h : b.ks.length ≤ 10) : b.along.length ≤ 10 := by
 unfold BlkV.along
 split
 ·exact Nat.zero_le _
 ·exact h
theorem opt_len {α : Type} {f : α → List Int} {x : Option α} {n : Nat} (h : ∀ a, x = some a → (f a).length ≤ n) : ((x.map f).getD []).length ≤ n := by
 cases x with
 | none => exact Nat.zero_le _
 | some a => exact h a rfl
theorem pOut_len (op : Int) : (pOut op).length ≤ 10 := by
 unfold pOut
 repeat' split
 all_goals simp
theorem eff_few {m : ModD} {loc : List Int} {ops : List BlkV} (op a : Int) (hm : ∀ d ∈ m.types, d.r.xs.length ≤ 10) (hk : ∀ b ∈ ops, b.ks.length ≤ 10) : (effV m loc ops op a).2.length ≤ 10 := by
 unfold effV
 split
 ·exact Nat.zero_le _
 split
 ·exact Nat.zero_le _
 split
 ·exact opt_len fun b e => along_len (hk b (List.mem_of_getElem? e))
 split
 ·exact Nat.zero_le _
 split
 ·exact Nat.zero_le _
 split
 ·show (sigAt m.types m.imports m.funcs a.toNat).r.xs.length ≤ 10
  unfold sigAt
  split
  ·exact bang_len hm _
  ·exact bang_len hm _
 split
 ·exact opt_len fun d e => hm d (List.mem_of_getElem? e)
 split
 ·refine opt_len fun k e => ?_
  unfold onG
  split <;> simp
 split
 ·refine opt_len fun d e => ?_
  unfold onG
  split <;> simp
 ·exact pOut_len op
section
variable {st : List Int} {pre : List BlkV} {b : BlkV} {bad : Bool} {i : Nat}
theorem TrkV.ok.out (h : TrkV.ok ⟨st, pre ++ [b], bad⟩ i) : ∀ x ∈ pre, x.base ≤ b.base := fun x hx => (List.pairwise_append.1 h.up).2.2 x hx b (by simp)
theorem TrkV.ok.same (h : TrkV.ok ⟨st, pre ++ [b], bad⟩ i) {s : List Int} {c : BlkV} {e : Bool} (hc : c.base = b.base) (hk : c.ks = b.ks) (h1 : b.base ≤ s.length) (h2 : s.length ≤ st.length + 20) : TrkV.ok ⟨s, pre ++ [c], e⟩ (i + 1) := by
 have hl : st.length ≤ 20 * i := h.len
 have hp := h.out
 refine ⟨by show s.length ≤ 20 * (i + 1); omega, fun x hx => ?_, ?_, fun x hx => ?_⟩
 ·rcases List.mem_append.1 hx with hx | hx
  ·exact Nat.le_trans (hp x hx) h1
  ·obtain rfl : x = c := by simpa using hx
   show x.base ≤ s.length
   omega
 ·refine List.pairwise_append.2 ⟨(List.pairwise_append.1 h.up).1, List.pairwise_singleton _ _, fun x hx y hy => ?_⟩
  obtain rfl : y = c := by simpa using hy
  rw [hc]
  exact hp x hx
 ·rcases List.mem_append.1 hx with hx | hx
  ·exact h.ks x (List.mem_append_left _ hx)
  ·obtain rfl : x = c := by simpa using hx
   rw [hk]
   exact h.ks b (by simp)
theorem TrkV.ok.less (h : TrkV.ok ⟨st, pre ++ [b], bad⟩ i) {s : List Int} {e : Bool} (h1 : b.base ≤ s.length) (h2 : s.length ≤ st.length + 20) : TrkV.ok ⟨s, pre, e⟩ (i + 1) := by
 have hl : st.length ≤ 20 * i := h.len
 exact ⟨by show s.length ≤ 20 * (i + 1); omega, fun x hx => Nat.le_trans (h.out x hx) h1, (List.pairwise_append.1 h.up).1, fun x hx => h.ks x (List.mem_append_left _ hx)⟩
theorem TrkV.ok.more {T : TrkV} (h : T.ok i) {c : BlkV} {e : Bool} (hc : c.base = T.st.length) (hk : c.ks.length ≤ 10) : TrkV.ok ⟨T.st, T.ops ++ [c], e⟩ i := by
 refine ⟨h.len, fun x hx => ?_, List.pairwise_append.2 ⟨h.up, List.pairwise_singleton _ _, fun x hx y hy => ?_⟩, fun x hx => ?_⟩
 ·rcases List.mem_append.1 hx with hx | hx
  ·exact h.bases x hx
  ·obtain rfl : x = c := by simpa using hx
   exact Nat.le_of_eq hc
 ·obtain rfl : y = c := by simpa using hy
  rw [hc]
  exact h.bases x hx
 ·rcases List.mem_append.1 hx with hx | hx
  ·exact h.ks x hx
  ·obtain rfl : x = c := by simpa using hx
   exact hk
theorem chooseV_base (h : b.base ≤ st.length) : b.base ≤ (chooseV st b bad).1.length ∧ (chooseV st b bad).1.length ≤ st.length + 1 := by
 have r1 := takeV_base (k := 127) (bad := bad) h
 have r2 := takeV_base (k := 0) (bad := (takeV 127 st b bad).2.2) r1.1
 have r3 := takeV_base (k := (takeV 0 (takeV 127 st b bad).2.1 b (takeV 127 st b bad).2.2).1) (bad := (takeV 0 (takeV 127 st b bad).2.1 b (takeV 127 st b bad).2.2).2.2) r2.1
 unfold chooseV
 simp only [List.length_append, List.length_singleton]
 omega
theorem pass1_ok {m : ModD} {loc : List Int} {op a : Int} (hm : ∀ d ∈ m.types, d.r.xs.length ≤ 10) (h : TrkV.ok ⟨st, pre ++ [b], bad⟩ i) :
  (pass1 m loc st pre b bad op a).ok (i + 1) ∧ b.base ≤ (pass1 m loc st pre b bad op a).st.length ∧ (pass1 m loc st pre b bad op a).ops.length = if op = 11 then pre.length else pre.length + 1 := by
 have hb : b.base ≤ st.length := h.bases b (by simp)
 have hk : b.ks.length ≤ 10 := h.ks b (by simp)
 unfold pass1
 by_cases c26 : op = 26
 ·rw [if_pos c26, if_neg (by omega)]
  have r := takeV_base (k := 0) (bad := bad) hb
  exact ⟨h.same rfl rfl r.1 (Nat.le_add_right_of_le r.2), r.1, by simp⟩
 rw [if_neg c26]
 by_cases c27 : op = 27
 ·rw [if_pos c27, if_neg (by omega)]
  have r := chooseV_base (bad := bad) hb
  exact ⟨h.same rfl rfl r.1 (by omega), r.1, by simp⟩
 rw [if_neg c27]
 have f := tksV_base (b := b) b.ks.reverse (s := (st, bad)) hb
 have f1 : b.base ≤ (finV st b bad).1.length ∧ (finV st b bad).1.length ≤ st.length := f
 by_cases c5 : op = 5
 ·rw [if_pos c5, if_neg (by omega)]
  exact ⟨h.same rfl rfl f1.1 (Nat.le_add_right_of_le f1.2), f1.1, by simp⟩
 rw [if_neg c5]
 by_cases c11 : op = 11
 ·rw [if_pos c11, if_pos c11]
  have e : ((finV st b bad).1 ++ b.ks).length = (finV st b bad).1.length + b.ks.length := List.length_append
  exact ⟨h.less (by rw [e]; omega) (by rw [e]; omega), by show b.base ≤ ((finV st b bad).1 ++ b.ks).length; rw [e]; omega, rfl⟩
 rw [if_neg c11, if_neg c11]
 have g := tksV_base (b := b) (effV m loc (pre ++ [b]) op a).1.reverse (s := (st, bad)) hb
 have q := eff_few (m := m) (loc := loc) (ops := pre ++ [b]) op a hm h.ks
 have e : ((tksV b (effV m loc (pre ++ [b]) op a).1.reverse (st, bad)).1 ++ (effV m loc (pre ++ [b]) op a).2).length = (tksV b (effV m loc (pre ++ [b]) op a).1.reverse (st, bad)).1.length + (effV m loc (pre ++ [b]) op a).2.length := List.length_append
 have g1 : (tksV b (effV m loc (pre ++ [b]) op a).1.reverse (st, bad)).1.length ≤ st.length := g.2
 exact ⟨h.same rfl rfl (by rw [e]; omega) (by rw [e]; omega), by show b.base ≤ (_ ++ _ : List Int).length; rw [e]; omega, by simp⟩
def opnN (n : Nat) (op : Int) : Nat := if op = 2 ∨ op = 3 ∨ op = 4 then n + 2 else if op = 11 then n else n + 1
theorem pass_ok {m : ModD} {loc : List Int} {op a : Int} (hm : ∀ d ∈ m.types, d.r.xs.length ≤ 10) (h : TrkV.ok ⟨st, pre ++ [b], bad⟩ i) :
  (passV m loc st pre b bad op a).ok (i + 1) ∧ (passV m loc st pre b bad op a).ops.length = opnN pre.length op := by
 have p := pass1_ok (loc := loc) (op := op) (a := a) hm h
 have hb : b.base ≤ st.length := h.bases b (by simp)
 unfold passV opnN
 by_cases c2 : op = 2 ∨ op = 3 ∨ op = 4
 ·rw [if_pos c2, if_pos c2]
  refine ⟨p.1.more rfl ?_, ?_⟩
  ·show (ksOf a).length ≤ 10
   unfold ksOf
   split <;> simp
  ·rw [List.length_append, p.2.2, if_neg (by omega)]
   rfl
 rw [if_neg c2, if_neg c2]
 by_cases c0 : op = 0 ∨ op = 12 ∨ op = 14 ∨ op = 15
 ·rw [if_pos c0, if_neg (by omega)]
  have e : ((pass1 m loc st pre b bad op a).st.take b.base).length = b.base := by
   rw [List.length_take]
   omega
  exact ⟨h.same rfl rfl (by rw [e]; omega) (by rw [e]; omega), by simp⟩
 rw [if_neg c0]
 exact ⟨p.1, p.2.2⟩
theorem step_ok {m : ModD} {loc : List Int} {op a : Int} {xs : List Int} (hm : ∀ d ∈ m.types, d.r.xs.length ≤ 10) (h : TrkV.ok ⟨st, pre ++ [b], bad⟩ i) (hE : (stepV m loc st pre b bad op a xs).1 = 0) :
  (stepV m loc st pre b bad op a xs).2.ok (i + 1) ∧ (stepV m loc st pre b bad op a xs).2.ops.length = opnN pre.length op ∧ (stepV m loc st pre b bad op a xs).2.bad = false := by
 unfold stepV at hE ⊢
 split at hE
 ·exact absurd hE (by simp)
 split at hE
 ·exact absurd hE (by simp)
 split at hE
 ·exact absurd hE (by simp)
 rename_i n1 n2 n3
 rw [if_neg n1, if_neg n2, if_neg n3]
 have h' : TrkV.ok ⟨st, pre ++ [b], bad || !allowedV m (pre ++ [b]) op a xs⟩ i := ⟨h.len, h.bases, h.up, h.ks⟩
 have p := pass_ok (loc := loc) (op := op) (a := a) hm h'
 exact ⟨p.1, p.2, by simpa using n3⟩
end
def nextV (m : ModD) (loc : List Int) (T : TrkV) (d : InsD) : Int × TrkV :=
 match T.ops.getLast? with
 | none => (0, T)
 | some b => stepV m loc T.st T.ops.dropLast b T.bad d.op d.A d.xs
theorem nextV_eq (m : ModD) (loc st : List Int) (pre : List BlkV) (b : BlkV) (bad : Bool) (d : InsD) : nextV m loc ⟨st, pre ++ [b], bad⟩ d = stepV m loc st pre b bad d.op d.A d.xs := by
 unfold nextV
 simp
def runV (m : ModD) (loc : List Int) : List InsD → Nat → TrkV → Int × Int
 | [], _, _ => (0, 0)
 | d :: L, i, T => if (nextV m loc T d).1 = 0 then runV m loc L (i + 1) (nextV m loc T d).2 else ((i : Int), (nextV m loc T d).1)
theorem chk_says {d : InsD} {w : World} (hd : d.ok w) (h : chkD d = 0) : (d.op ≤ 36 → 0 ≤ d.A) ∧ (∀ x ∈ d.xs, 0 ≤ x) ∧ (d.op = 2 ∨ d.op = 3 ∨ d.op = 4 → d.A ≤ 255) := by
 unfold chkD chkV at h
 split at h
 ·exact absurd h (by decide)
 split at h
 ·exact absurd h (by decide)
 have hf : fitB (besV d.op) d.A d.B d.n d.xs = true := by
  split at h
  ·assumption
  ·exact absurd h (by decide)
 have hl := hd.lj.1
 unfold fitB at hf
 split at hf
 ·exact absurd hf (by decide)
 rename_i hn
 split at hf
 ·exact absurd hf (by decide)
 have x0 : besV d.op ≠ 4 → ∀ x ∈ d.xs, 0 ≤ x := fun hne x hx => by
  have : d.n = 0 := by
   rcases Nat.eq_zero_or_pos d.n with h0 | h0
   ·exact h0
   ·exact absurd ⟨hne, h0⟩ hn
  have : d.xs = [] := List.length_eq_zero_iff.1 (by omega)
  rw [this] at hx
  cases hx
 split at hf
 ·rename_i k2
  have r := isKB_range hf
  exact ⟨fun _ => by omega, x0 (by omega), fun _ => by omega⟩
 rename_i k2
 have n2 : ¬ (d.op = 2 ∨ d.op = 3 ∨ d.op = 4) := fun c => k2 (by unfold besV; rw [if_neg (by omega), if_pos c])
 split at hf
 ·rename_i k8
  refine ⟨fun c => ?_, x0 (by omega), fun c => absurd c n2⟩
  exfalso
  revert k8
  unfold besV
  repeat' split
  all_goals first | omega | simp
 split at hf
 ·rename_i k9
  refine ⟨fun c => ?_, x0 (by omega), fun c => absurd c n2⟩
  exfalso
  revert k9
  unfold besV
  repeat' split
  all_goals first | omega | simp
 split at hf
 ·rw [Bool.and_eq_true, Bool.and_eq_true] at hf
  refine ⟨fun _ => ?_, fun x hx => ?_, fun c => absurd c n2⟩
  ·have := hf.1.1
   unfold numB at this
   rw [Bool.and_eq_true] at this
   exact of_decide_eq_true this.1
  ·have := List.all_eq_true.1 hf.2 x hx
   unfold numB at this
   rw [Bool.and_eq_true] at this
   exact of_decide_eq_true this.1
 ·have : d.A = 0 := eq_of_beq hf
  rename_i k4
  exact ⟨fun _ => by omega, x0 (by omega), fun _ => by omega⟩
theorem LJ.one {w : World} {o : Option Addr} {n : Nat} {xs : List Int} (h : LJ w o n xs) : LJ1 w o xs := by
 obtain ⟨hl, h⟩ := h
 rcases h with h0 | ⟨a, e, ha, hc⟩
 ·exact Or.inl (List.length_eq_zero_iff.1 (by omega))
 ·rcases Nat.eq_zero_or_pos n with h0 | hp
  ·exact Or.inl (List.length_eq_zero_iff.1 (by omega))
  obtain ⟨b, f, s⟩ := a
  have hs : s = none := by
   have := hc 0 hp
   simp only [Addr.add, if_pos] at this
   unfold World.cell? at this
   split at this
   ·split at this
    ·cases this
    ·rename_i q
     cases s with
     | none => rfl
     | some _ => exact absurd rfl q
   ·cases this
  subst hs
  refine Or.inr ⟨b, f, e, ha, fun i hi => ?_⟩
  have := hc i (by omega)
  rw [List.getD_eq_getElem?_getD, List.getElem?_eq_getElem hi] at this
  rw [show (⟨b, f, none⟩ : Addr).add i = ⟨b, f + i, none⟩ from by unfold Addr.add; split <;> simp_all] at this
  exact this
structure RunI (m : ModD) (loc : List Int) (L : List InsD) (R : Int × Int) (i : Nat) (T : TrkV) : Prop where
 run : R = runV m loc (L.drop i) i T
 ok : T.ok i
 bad : T.bad = false
 nest : ∃ bs en, (nRun (L.drop i) bs en).1 = 0 ∧ bs.length ≤ 12 ∧ (en = false → T.ops.length = bs.length + 1)
theorem RunI.first {m : ModD} {loc : List Int} {L : List InsD} {ks : List Int} (hn : nChk L = 0) (hk : ks.length ≤ 10) : RunI m loc L (runV m loc L 0 ⟨[], [⟨2, ks, 0, false⟩], false⟩) 0 ⟨[], [⟨2, ks, 0, false⟩], false⟩ := by
 refine ⟨rfl, ⟨Nat.zero_le _, fun b hb => ?_, List.pairwise_singleton _ _, fun b hb => ?_⟩, rfl, [], false, ?_, Nat.zero_le _, fun _ => rfl⟩
 ·obtain rfl : b = ⟨2, ks, 0, false⟩ := by simpa using hb
  exact Nat.zero_le _
 ·obtain rfl : b = ⟨2, ks, 0, false⟩ := by simpa using hb
  exact hk
 ·unfold nChk at hn
  split at hn
  ·exact absurd hn (by decide)
  split at hn
  ·assumption
  ·exact hn
theorem RunI.len {L : List InsD} (hn : nChk L = 0) : L.length ≤ 200 := by
 unfold nChk at hn
 split at hn
 ·exact absurd hn (by decide)
 ·omega
theorem RunI.here {m : ModD} {loc : List Int} {L : List InsD} {R : Int × Int} {i : Nat} {T : TrkV} (h : RunI m loc L R i T) (hi : i < L.length) : chkD (L[i]) = 0 ∧ ∃ pre b, T.ops = pre ++ [b] ∧ pre.length ≤ 12 := by
 obtain ⟨bs, en, hn, hb, ho⟩ := h.nest
 rw [List.drop_eq_getElem_cons hi] at hn
 have hs : (nStep (chkD L[i]) (L[i]).op bs en).1 = 0 := by
  by_cases c : (nStep (chkD L[i]) (L[i]).op bs en).1 = 0
  ·exact c
  ·simp only [nRun, if_neg c] at hn
   exact hn
 have hc : chkD L[i] = 0 := by
  by_cases c : chkD L[i] = 0
  ·exact c
  ·simp only [nStep, if_pos (show chkD L[i] ≠ 0 from c)] at hs
   exact hs
 have he : en = false := by
  cases en with
  | false => rfl
  | true => simp [nStep, hc] at hs
 have hl := ho he
 refine ⟨hc, T.ops.dropLast, T.ops.getLast (by intro e; rw [e] at hl; simp at hl), (List.dropLast_concat_getLast _).symm, ?_⟩
 rw [List.length_dropLast]
 omega
theorem RunI.next {m : ModD} {loc : List Int} {L : List InsD} {R : Int × Int} {i : Nat} {st : List Int} {pre : List BlkV} {b : BlkV} {bad : Bool} (hm : ∀ d ∈ m.types, d.r.xs.length ≤ 10) (h : RunI m loc L R i ⟨st, pre ++ [b], bad⟩) (hi : i < L.length) (hE : (stepV m loc st pre b bad (L[i]).op (L[i]).A (L[i]).xs).1 = 0) : RunI m loc L R (i + 1) (stepV m loc st pre b bad (L[i]).op (L[i]).A (L[i]).xs).2 := by
 have p := step_ok hm h.ok hE
 refine ⟨?_, p.1, p.2.2, ?_⟩
 ·rw [h.run, List.drop_eq_getElem_cons hi]
  simp only [runV, nextV_eq, if_pos hE]
 ·obtain ⟨bs, en, hn, hb, ho⟩ := h.nest
  rw [List.drop_eq_getElem_cons hi] at hn
  have hs : (nStep (chkD L[i]) (L[i]).op bs en).1 = 0 := by
   by_cases c : (nStep (chkD L[i]) (L[i]).op bs en).1 = 0
   ·exact c
   ·simp only [nRun, if_neg c] at hn
    exact hn
  simp only [nRun, if_pos hs] at hn
  refine ⟨_, _, hn, nStep_len _ _ _ _ hb, fun he => ?_⟩
  rw [p.2.1]
  revert hs he
  unfold nStep opnN
  by_cases hc : chkD L[i] ≠ 0
  ·rw [if_pos hc]
   exact fun e => absurd e hc
  rw [if_neg hc]
  by_cases hen : en = true
  ·rw [if_pos hen]
   exact fun e => absurd e (by simp)
  rw [if_neg hen]
  have hl : pre.length + 1 = bs.length + 1 := by
   have := ho (by simpa using hen)
   simpa using this
  by_cases c2 : (L[i]).op = 2 ∨ (L[i]).op = 3 ∨ (L[i]).op = 4
  ·rw [if_pos c2, if_pos c2]
   split
   ·exact fun e => absurd e (by simp)
   ·intro _ _
    simp only [List.length_append, List.length_singleton]
    omega
  rw [if_neg c2, if_neg c2]
  by_cases c5 : (L[i]).op = 5
  ·rw [if_pos c5, if_neg (by omega)]
   split
   ·rename_i e
    have hne : bs ≠ [] := by intro q; rw [q] at e; simp at e
    have := List.length_pos_iff.2 hne
    intro _ _
    simp only [List.length_append, List.length_singleton, List.length_dropLast]
    omega
   ·exact fun e => absurd e (by simp)
  rw [if_neg c5]
  by_cases c11 : (L[i]).op = 11
  ·rw [if_pos c11, if_pos c11]
   cases bs with
   | nil => exact fun _ e => absurd e (by simp)
   | cons x bs =>
    intro _ _
    simp only [List.length_dropLast, List.length_cons] at hl ⊢
    omega
  ·rw [if_neg c11, if_neg c11]
   intro _ _
   exact hl
theorem RunI.stop {m : ModD} {loc : List Int} {L : List InsD} {R : Int × Int} {i : Nat} {st : List Int} {pre : List BlkV} {b : BlkV} {bad : Bool} (h : RunI m loc L R i ⟨st, pre ++ [b], bad⟩) (hi : i < L.length) (hE : (stepV m loc st pre b bad (L[i]).op (L[i]).A (L[i]).xs).1 ≠ 0) : R = ((i : Int), (stepV m loc st pre b bad (L[i]).op (L[i]).A (L[i]).xs).1) := by
 rw [h.run, List.drop_eq_getElem_cons hi]
 simp only [runV, nextV_eq, if_neg hE]
theorem RunI.last {m : ModD} {loc : List Int} {L : List InsD} {R : Int × Int} {i : Nat} {T : TrkV} (h : RunI m loc L R i T) (hi : L.length ≤ i) : R = (0, 0) := by
 rw [h.run, List.drop_eq_nil_of_le hi]
 rfl
end Go.Proofs.YtlfihndbnaaodaaGreatDoor
namespace Go.Proofs.YtlfihndbnaaodaaGreatDoor
open Go.RowKit
set_option linter.unusedVariables false
theorem u8_of_wf {x : Int} (h : (Lit.int .u8 x).wf = true) : 0 ≤ x ∧ x ≤ 255 := by
 have a : IntKind.u8.min = 0 := by decide
 have b : IntKind.u8.max = 255 := by decide
 simp [Lit.wf, a, b] at h
 omega
theorem typ_fun {m : ModD} (h : typD m = 0) : ∀ d ∈ m.funcs, d.t < (m.types.length : Int) := fun d hd => by
 have := okE_eq0 (by decide) (frst_eq0 (fstE_eq0 h).2 d hd)
 simp at this
 exact this
theorem TK.low {w : World} {N N' P : Nat} {M : Nat → Value} {so : Option Addr} {sc : Nat} {oo : Option Addr} {oc : Nat} {st : List Int} {ops : List BlkD} {bad : Bool} (h : TK w N P M so sc oo oc st ops bad) (hN : N' ≤ N) : TK w N' P M so sc oo oc st ops bad := by
 have lw {t : TypeId} {k : Nat} {v : Value} {n : Nat} {xs : List Value} (h : w.ownsRow N t k v n xs) : w.ownsRow N' t k v n xs := by
  refine ⟨h.1, ?_⟩
  rcases h.2 with h0 | ⟨g, c, cur, h1, h2, h3⟩
  ·exact Or.inl h0
  ·exact Or.inr ⟨g, c, cur, h1, by omega, h3⟩
 exact ⟨h.box, lw h.stk, lw h.opn, h.kin, Nat.le_trans hN h.np⟩
def Going (N P : Nat) (m : ModD) (L : NumD) (T : TrkV) (w : World) : Prop := ∃ (so : Option Addr) (sc : Nat) (oo : Option Addr) (oc : Nat) (ops : List BlkD), TK w N P (trkM m L) so sc oo oc T.st ops T.bad ∧ ops.map BlkD.val = T.ops ∧ (∀ b ∈ ops, b.ks.n ≤ 10) ∧ L.ok .u8 w ∧ offRow P so oo L
theorem Going.below {N P : Nat} {m : ModD} {L : NumD} {T : TrkV} {w w' : World} (h : Going N P m L T w) (b : Below w.heap.size w w') : Going N P m L T w' := by
 obtain ⟨so, sc, oo, oc, ops, h1, h2, h3, h4, h5⟩ := h
 exact ⟨so, sc, oo, oc, ops, h1.below b, h2, h3, h4.below b, h5⟩
theorem Going.np {N P : Nat} {m : ModD} {L : NumD} {T : TrkV} {w : World} (h : Going N P m L T w) : N ≤ P ∧ P < w.heap.size := by
 obtain ⟨so, sc, oo, oc, ops, h1, h2, h3, h4, h5⟩ := h
 exact ⟨h1.np, h1.lt⟩
theorem going_step (m : ModD) (P : Nat) (L : NumD) (T : TrkV) (B : List InsD) (R : Int × Int) (i : Nat) (w0 w : World) (h : Going w0.heap.size P m L T w) (hr : RunI m L.xs B R i T) (hi : i < B.length) (hB : B.length ≤ 200) (hd : (B[i]).ok w0) (hb0 : Below w0.heap.size w0 w) (hm : m.ok w0) (hc0 : mChk m = 0) (hc2 : typD m = 0) (hTab : TabIn w0) (hg : 1 < w0.heap.size) :
  Calls Tryz.prog 27 #[.pointer (some ⟨P, 0, none⟩), .agg #[.int .u8 (B[i]).op, .int .i64 (B[i]).A, .int .i64 (B[i]).B, .slice (B[i]).o (B[i]).n (B[i]).cap]] w fun r w' => ∃ (E : Int) (T' : TrkV), r = .returned (.int .i64 E) ∧ Below w0.heap.size w w' ∧ (E = 0 → Going w0.heap.size P m L T' w' ∧ RunI m L.xs B R (i + 1) T') ∧ (E ≠ 0 → R = ((i : Int), E)) := by
 obtain ⟨st, vops, bad⟩ := T
 obtain ⟨so, sc, oo, oc, ops, h1, h2, h3, h4, h5⟩ := h
 obtain ⟨hck, pre, b, hops, hpl⟩ := hr.here hi
 dsimp only at h1 h2 hops
 subst hops
 obtain ⟨ops0, l2, rfl, e1, e2⟩ := List.map_eq_append_iff.1 h2
 obtain ⟨bl, t, rfl, e3, e4⟩ := List.map_eq_cons_iff.1 e2
 obtain rfl := List.map_eq_nil_iff.1 e4
 subst e1
 subst e3
 obtain ⟨g, rfl⟩ : ∃ g, oo = some ⟨g, 0, none⟩ := by
  rcases h1.opn.2 with ⟨_, hz⟩ | ⟨g, c, cur, hv, _⟩
  ·simp at hz
  ·simp only [Value.slice.injEq] at hv
   exact ⟨g, hv.1⟩
 have sm := mod_small hm hc0
 have sr : ∀ d ∈ m.types, d.r.xs.length ≤ 10 := fun d hd => by
  have := (hm.types.all d hd).2.len
  have := (sm.1 d hd).2
  omega
 have sy := chk_says hd hck
 have hl : st.length ≤ 20 * i := hr.ok.len
 have hmo := hd.most
 unfold maxLen at hmo
 refine (vstep (B[i]).op w0.heap.size P m L so sc g oc st ops0 bl bad (B[i]).A (B[i]).B (B[i]).o (B[i]).n (B[i]).cap (B[i]).xs w h1 (by omega) (hr.ok.bases bl.val (by simp)) h3 (by rw [List.length_map] at hpl; omega) w0 (Nat.le_refl _) hb0 hm hc0 hc2 h4 h5 (fun x hx => u8_of_wf (h4.wf x hx)) (hTab.of_cells fun j => hb0.cell (p := ⟨1, j, none⟩) hg) hg sy.1 sy.2.1 hd.lj.1 hd.cap (by omega) hd.lj.one hd.op0 hd.op1 sy.2.2).mono ?_
 rintro r w' ⟨rfl, hbw, hz⟩
 refine ⟨_, (stepV m L.xs st (ops0.map BlkD.val) bl.val bad (B[i]).op (B[i]).A (B[i]).xs).2, rfl, hbw, fun hE => ⟨?_, hr.next sr hi hE⟩, fun hE => hr.stop hi hE⟩
 obtain ⟨so', sc', oo', oc', ops', k1, k2, k3, k4, _⟩ := hz hE
 exact ⟨so', sc', oo', oc', ops', k1, k3, k4, h4.tf k2 h5, h5.tf h4 k2⟩
def firstV (m : ModD) (k : Nat) : Int × Int := runV m ((m.types[(m.funcs[k]!).t.toNat]!).i.xs ++ (m.funcs[k]!).l.xs) (m.funcs[k]!).b 0 ⟨[], [⟨2, (m.types[(m.funcs[k]!).t.toNat]!).r.xs, 0, false⟩], false⟩
theorem vfirst (m : ModD) (at' : Int) (w : World) (hm : m.ok w) (hc0 : mChk m = 0) (hc2 : typD m = 0) (h0 : 0 ≤ at') (h1 : at' < (m.funcs.length : Int)) (hTab : TabIn w) (hg : 1 < w.heap.size) :
  Calls Tryz.prog 21 #[.agg #[.slice m.oT m.types.length m.cT, .slice m.oI m.imports.length m.cI, .slice m.oF m.funcs.length m.cF, .int .i64 m.table, .int .i64 m.pages, .int .i64 m.most, .slice m.oG m.globals.length m.cG, .slice m.oE m.exports.length m.cE, .int .i64 m.start, .slice m.oL m.elems.length m.cL, .slice m.oD m.data.length m.cD], .int .i64 at'] w fun r w' => r = .returned (.tuple #[.int .i64 (firstV m at'.toNat).1, .int .i64 (firstV m at'.toNat).2]) ∧ Below w.heap.size w w' := by
 have hi : at'.toNat < m.funcs.length := by omega
 have hcm := hm.funcs.most
 have hcl := hm.funcs.le
 unfold maxLen at hcm
 obtain ⟨bb, ff, ho, hbN, hc⟩ := hm.funcs.cellAt (fun e => by rw [e] at hi; exact absurd hi (by simp))
 have hfo := hm.funcs.all _ (List.getElem_mem hi)
 have sm := mod_small hm hc0
 have hfs := sm.2 _ (List.getElem_mem hi)
 have hft := typ_fun hc2 _ (List.getElem_mem hi)
 unfold firstV
 rw [← getElem!_pos m.funcs _ hi] at hfo hfs hft
 have hb1 : Below w.heap.size w (w.alloc (.cells #[.slice m.oT m.types.length m.cT, .slice m.oI m.imports.length m.cI, .slice m.oF m.funcs.length m.cF, .int .i64 m.table, .int .i64 m.pages, .int .i64 m.most, .slice m.oG m.globals.length m.cG, .slice m.oE m.exports.length m.cE, .int .i64 m.start, .slice m.oL m.elems.length m.cL, .slice m.oD m.data.length m.cD] 30)) := (Below.refl _ _).alloc (Nat.le_refl _) _
 have hcc := hc _ hb1 _ hi
 generalize m.funcs[at'.toNat]! = d at *
 obtain ⟨ft, ⟨lo, ln, lc, lx⟩, bo, bc, body⟩ := d
 dsimp only at hfs hft hcc ⊢
 obtain ⟨hnc, hln, hf0⟩ := hfs
 obtain ⟨_, hlo, hLD, hbl, hbc⟩ := hfo
 dsimp only at hlo hLD hbl hbc
 unfold maxLen at hbc
 have hi2 : ft.toNat < m.types.length := by omega
 have hr10 : (m.types[ft.toNat]!).r.xs.length ≤ 10 := bang_len (fun d hd => by
  have := (hm.types.all d hd).2.len
  have := (sm.1 d hd).2
  omega) _
 have hBl := RunI.len hnc
 obtain ⟨R, hR⟩ : ∃ R, R = runV m ((m.types[ft.toNat]!).i.xs ++ lx) body 0 ⟨[], [⟨2, (m.types[ft.toNat]!).r.xs, 0, false⟩], false⟩ := ⟨_, rfl⟩
 have HR0 : Hid (RunI m ((m.types[ft.toNat]!).i.xs ++ lx) body R 0 ⟨[], [⟨2, (m.types[ft.toNat]!).r.xs, 0, false⟩], false⟩) := by rw [hR]; exact RunI.first hnc hr10
 rw [← hR]
 have e0 : (w.alloc (.cells #[.slice m.oT m.types.length m.cT, .slice m.oI m.imports.length m.cI, .slice m.oF m.funcs.length m.cF, .int .i64 m.table, .int .i64 m.pages, .int .i64 m.most, .slice m.oG m.globals.length m.cG, .slice m.oE m.exports.length m.cE, .int .i64 m.start, .slice m.oL m.elems.length m.cL, .slice m.oD m.data.length m.cD] 30)).cell? ⟨bb, ff + at'.toNat * 3, none⟩ = some (.int .i64 ft) := hcc 0 (by omega)
 have e1 : (w.alloc (.cells #[.slice m.oT m.types.length m.cT, .slice m.oI m.imports.length m.cI, .slice m.oF m.funcs.length m.cF, .int .i64 m.table, .int .i64 m.pages, .int .i64 m.most, .slice m.oG m.globals.length m.cG, .slice m.oE m.exports.length m.cE, .int .i64 m.start, .slice m.oL m.elems.length m.cL, .slice m.oD m.data.length m.cD] 30)).cell? ⟨bb, ff + at'.toNat * 3 + 1, none⟩ = some (.slice lo ln lc) := hcc 1 (by omega)
 have e2 : (w.alloc (.cells #[.slice m.oT m.types.length m.cT, .slice m.oI m.imports.length m.cI, .slice m.oF m.funcs.length m.cF, .int .i64 m.table, .int .i64 m.pages, .int .i64 m.most, .slice m.oG m.globals.length m.cG, .slice m.oE m.exports.length m.cE, .int .i64 m.start, .slice m.oL m.elems.length m.cL, .slice m.oD m.data.length m.cD] 30)).cell? ⟨bb, ff + at'.toNat * 3 + 2, none⟩ = some (.slice bo body.length bc) := hcc 2 (by omega)
 have HBG : Hid (∀ W, Below w.heap.size w W → Calls Tryz.prog 25 #[.agg #[.slice m.oT m.types.length m.cT, .slice m.oI m.imports.length m.cI, .slice m.oF m.funcs.length m.cF, .int .i64 m.table, .int .i64 m.pages, .int .i64 m.most, .slice m.oG m.globals.length m.cG, .slice m.oE m.exports.length m.cE, .int .i64 m.start, .slice m.oL m.elems.length m.cL, .slice m.oD m.data.length m.cD], .agg #[.int .i64 ft, .slice lo ln lc, .slice bo body.length bc]] W fun r w' => ∃ (P : Nat) (L : NumD) (T : TrkV), r = .returned (.pointer (some ⟨P, 0, none⟩)) ∧ Going w.heap.size P m L T w' ∧ RunI m L.xs body R 0 T ∧ Below W.heap.size W w') := fun W b => by
  refine (vbegin m ft ⟨lo, ln, lc, lx⟩ bo body.length bc W (hm.below b) hf0 hft (hlo.below b) hln (fun d hd => by have := sm.1 d hd; omega)).mono ?_
  rintro r w' ⟨P, L, g, bl, rfl, k1, k2, k3, k4, k5, k6, k7⟩
  refine ⟨P, L, ⟨[], [bl.val], false⟩, rfl, ⟨none, 0, some ⟨g, 0, none⟩, 1, [] ++ [bl], k1.low b.size, rfl, fun x hx => ?_, k2, k3⟩, ?_, k7⟩
  ·obtain rfl : x = bl := by simpa using hx
   exact k6
  ·rw [k4, k5]
   exact HR0.out
 have HST : Hid (∀ P L T i W, Going w.heap.size P m L T W → RunI m L.xs body R i T → ∀ hi : i < body.length, Below w.heap.size w W → Calls Tryz.prog 27 #[.pointer (some ⟨P, 0, none⟩), .agg #[.int .u8 (body[i]).op, .int .i64 (body[i]).A, .int .i64 (body[i]).B, .slice (body[i]).o (body[i]).n (body[i]).cap]] W fun r w' => ∃ (E : Int) (T' : TrkV), r = .returned (.int .i64 E) ∧ Below w.heap.size W w' ∧ (E = 0 → Going w.heap.size P m L T' w' ∧ RunI m L.xs body R (i + 1) T') ∧ (E ≠ 0 → R = ((i : Int), E))) := fun P L T i W hG hr hi b => going_step m P L T body R i w W hG hr hi hBl (hLD.1 _ (List.getElem_mem hi)) b hm hc0 hc2 hTab hg
 have HLD : Hid (LD w bo body) := hLD
 have q1 := new_block w (.cells #[.slice m.oT m.types.length m.cT, .slice m.oI m.imports.length m.cI, .slice m.oF m.funcs.length m.cF, .int .i64 m.table, .int .i64 m.pages, .int .i64 m.most, .slice m.oG m.globals.length m.cG, .slice m.oE m.exports.length m.cE, .int .i64 m.start, .slice m.oL m.elems.length m.cL, .slice m.oD m.data.length m.cD] 30)
 have z1 : (w.alloc (.cells #[.slice m.oT m.types.length m.cT, .slice m.oI m.imports.length m.cI, .slice m.oF m.funcs.length m.cF, .int .i64 m.table, .int .i64 m.pages, .int .i64 m.most, .slice m.oG m.globals.length m.cG, .slice m.oE m.exports.length m.cE, .int .i64 m.start, .slice m.oL m.elems.length m.cL, .slice m.oD m.data.length m.cD] 30)).heap.size = w.heap.size + 1 := by simp
 have HS : Hid (∀ w', Below (w.alloc (.cells #[.slice m.oT m.types.length m.cT, .slice m.oI m.imports.length m.cI, .slice m.oF m.funcs.length m.cF, .int .i64 m.table, .int .i64 m.pages, .int .i64 m.most, .slice m.oG m.globals.length m.cG, .slice m.oE m.exports.length m.cE, .int .i64 m.start, .slice m.oL m.elems.length m.cL, .slice m.oD m.data.length m.cD] 30)).heap.size (w.alloc (.cells #[.slice m.oT m.types.length m.cT, .slice m.oI m.imports.length m.cI, .slice m.oF m.funcs.length m.cF, .int .i64 m.table, .int .i64 m.pages, .int .i64 m.most, .slice m.oG m.globals.length m.cG, .slice m.oE m.exports.length m.cE, .int .i64 m.start, .slice m.oL m.elems.length m.cL, .slice m.oD m.data.length m.cD] 30)) w' → w'.cell? ⟨w.heap.size, 0, none⟩ = some (.slice m.oT m.types.length m.cT) ∧ w'.cell? ⟨w.heap.size, 1, none⟩ = some (.slice m.oI m.imports.length m.cI) ∧ w'.cell? ⟨w.heap.size, 2, none⟩ = some (.slice m.oF m.funcs.length m.cF) ∧ w'.cell? ⟨w.heap.size, 3, none⟩ = some (.int .i64 m.table) ∧ w'.cell? ⟨w.heap.size, 4, none⟩ = some (.int .i64 m.pages) ∧ w'.cell? ⟨w.heap.size, 5, none⟩ = some (.int .i64 m.most) ∧ w'.cell? ⟨w.heap.size, 6, none⟩ = some (.slice m.oG m.globals.length m.cG) ∧ w'.cell? ⟨w.heap.size, 7, none⟩ = some (.slice m.oE m.exports.length m.cE) ∧ w'.cell? ⟨w.heap.size, 8, none⟩ = some (.int .i64 m.start) ∧ w'.cell? ⟨w.heap.size, 9, none⟩ = some (.slice m.oL m.elems.length m.cL) ∧ w'.cell? ⟨w.heap.size, 10, none⟩ = some (.slice m.oD m.data.length m.cD) ∧ w'.cell? ⟨bb, ff + at'.toNat * 3, none⟩ = some (.int .i64 ft) ∧ w'.cell? ⟨bb, ff + at'.toNat * 3 + 1, none⟩ = some (.slice lo ln lc) ∧ w'.cell? ⟨bb, ff + at'.toNat * 3 + 2, none⟩ = some (.slice bo body.length bc)) := fun w' bz => by
  have a1 := (bz.block w.heap.size (by rw [z1]; omega)).trans q1
  have cl (k : Nat) := bz.cell (p := ⟨bb, ff + at'.toNat * 3 + k, none⟩) (by show bb < _; rw [z1]; omega)
  exact ⟨cell_at a1 0 rfl, cell_at a1 1 rfl, cell_at a1 2 rfl, cell_at a1 3 rfl, cell_at a1 4 rfl, cell_at a1 5 rfl, cell_at a1 6 rfl, cell_at a1 7 rfl, cell_at a1 8 rfl, cell_at a1 9 rfl, cell_at a1 10 rfl, (cl 0).trans e0, (cl 1).trans e1, (cl 2).trans e2⟩
 obtain ⟨v, hv⟩ : ∃ v, v = (w.alloc (.cells #[.slice m.oT m.types.length m.cT, .slice m.oI m.imports.length m.cI, .slice m.oF m.funcs.length m.cF, .int .i64 m.table, .int .i64 m.pages, .int .i64 m.most, .slice m.oG m.globals.length m.cG, .slice m.oE m.exports.length m.cE, .int .i64 m.start, .slice m.oL m.elems.length m.cL, .slice m.oD m.data.length m.cD] 30)) := ⟨_, rfl⟩
 have HV : Hid (v = (w.alloc (.cells #[.slice m.oT m.types.length m.cT, .slice m.oI m.imports.length m.cI, .slice m.oF m.funcs.length m.cF, .int .i64 m.table, .int .i64 m.pages, .int .i64 m.most, .slice m.oG m.globals.length m.cG, .slice m.oE m.exports.length m.cE, .int .i64 m.start, .slice m.oL m.elems.length m.cL, .slice m.oD m.data.length m.cD] 30))) := hv
 have hvs : v.heap.size = w.heap.size + 1 := by rw [hv]; exact z1
 have HVS : Hid (v.heap.size = w.heap.size + 1 ∧ w.heap.size ≤ v.heap.size) := ⟨hvs, by omega⟩
 have HB1 : Hid (Below w.heap.size w v) := by rw [hv]; exact hb1
 rw [← hv] at HS
 have HSv := HS.out v (Below.refl _ _)
 rw [hv] at HSv
 obtain ⟨f0, f1, f2, f3, f4, f5, f6, f7, f8, f9, f10, g0, g1, g2⟩ := HSv
 obtain ⟨n, hn⟩ : ∃ n, body.length = n := ⟨_, rfl⟩
 rw [hn] at g2 HS HBG hbl hBl
 have HLn : Hid (body.length = n) := hn
 have hni : (n : Int) ≤ 200 := by omega
 clear hn
 clear hc hcc hlo hLD hnc hln hf0 hft hi2 hr10 hR HR0 e0 e1 e2 q1 z1 hv hm hc0 hc2 hTab sm hvs hb1
 rw [ho] at f0 f1 f2 f3 f4 f5 f6 f7 f8 f9 f10 g0 g1 g2 HS HV HBG
 rw [ho]
 clear ho
 go_enter Tryz.func21, Tryz.ntmps21
 go_wp2
 rw [← HV.out]
 go_region_held3 (fun w' => w'.cell? ⟨w.heap.size, 0, none⟩ = some (.slice m.oT m.types.length m.cT) ∧ w'.cell? ⟨w.heap.size, 1, none⟩ = some (.slice m.oI m.imports.length m.cI) ∧ w'.cell? ⟨w.heap.size, 2, none⟩ = some (.slice (some ⟨bb, ff, none⟩) m.funcs.length m.cF) ∧ w'.cell? ⟨w.heap.size, 3, none⟩ = some (.int .i64 m.table) ∧ w'.cell? ⟨w.heap.size, 4, none⟩ = some (.int .i64 m.pages) ∧ w'.cell? ⟨w.heap.size, 5, none⟩ = some (.int .i64 m.most) ∧ w'.cell? ⟨w.heap.size, 6, none⟩ = some (.slice m.oG m.globals.length m.cG) ∧ w'.cell? ⟨w.heap.size, 7, none⟩ = some (.slice m.oE m.exports.length m.cE) ∧ w'.cell? ⟨w.heap.size, 8, none⟩ = some (.int .i64 m.start) ∧ w'.cell? ⟨w.heap.size, 9, none⟩ = some (.slice m.oL m.elems.length m.cL) ∧ w'.cell? ⟨w.heap.size, 10, none⟩ = some (.slice m.oD m.data.length m.cD) ∧ w'.cell? ⟨bb, ff + at'.toNat * 3, none⟩ = some (.int .i64 ft) ∧ w'.cell? ⟨bb, ff + at'.toNat * 3 + 1, none⟩ = some (.slice lo ln lc) ∧ w'.cell? ⟨bb, ff + at'.toNat * 3 + 2, none⟩ = some (.slice bo n bc))
  (first | exact HS.out _ bch | go_keep)
  ((go_at_call 25; (fail_if_success (have := HT1)); refine (HBG.out _ (HB1.out.trans ((bch : Below v.heap.size v _).mono HVS.out.2))).mono ?_; rintro r w1 ⟨P, L, T, rfl, hgo, hrun, b1⟩; have HT1 : Hid True := trivial; have HA1 : Hid (Below v.heap.size v w1) := (by (refine Below.trans ?_ (b1.mono ?_) <;> first | exact bch | exact bcl)); have hs1 : v.heap.size ≤ w1.heap.size := HA1.out.size; have HGO : Hid (type_of% hgo) := hgo; have HRUN : Hid (type_of% hrun) := hrun; clear b1 hgo hrun))
 obtain ⟨_, _, c2, _, _, _, _, _, _, _, _, _, _, c13⟩ := HS.out _ HA1.out
 have HB2 : Hid (Below w.heap.size w w1) := HB1.out.trans (HA1.out.mono HVS.out.2)
 clear HBG HS HA1 HB1 HV HVS hs1 f0 f1 f2 f3 f4 f5 f6 f7 f8 f9 f10 g0 g1 g2
 go_wp2
 go_loopw [24] (fun i wr => ∃ k : Nat, ∃ T : TrkV, i = .int .i64 k ∧ k ≤ n ∧ Hid (Going w.heap.size P m L T wr) ∧ Hid (RunI m L.xs body R k T) ∧ Hid (Below w.heap.size w wr)) (fun i _ => n - (intOf i).toNat)
 case atStart => exact ⟨0, T, rfl, by omega, HGO, HRUN, HB2⟩
 case round =>
  obtain ⟨k, T2, rfl, hk, HG, HR, HB⟩ := hrel
  clear HGO HRUN HB2
  have hw : w.heap.size < wr.heap.size := by have := HG.out.np; omega
  by_cases hlt : k < n
  ·have hkl : k < body.length := by rw [HLn.out]; exact hlt
   rcases HLD.out.2 with h0 | ⟨b, f, rfl, hbw, hcs⟩
   ·exfalso; rw [h0] at hkl; simp at hkl
   obtain ⟨m0, m1, m2, m3⟩ := hcs k hkl
   have HSTk : Hid (type_of% (HST.out P L T2 k)) := HST.out P L T2 k
   have HSU : Hid (type_of% (fun W hG b => HSTk.out W hG HR.out hkl b)) := fun W hG b => HSTk.out W hG HR.out hkl b
   have e0 := HB.out.cell (p := ⟨b, f + k * 4, none⟩) hbw
   have e1 := HB.out.cell (p := ⟨b, f + k * 4 + 1, none⟩) hbw
   have e2 := HB.out.cell (p := ⟨b, f + k * 4 + 2, none⟩) hbw
   have e3 := HB.out.cell (p := ⟨b, f + k * 4 + 3, none⟩) hbw
   rw [m0] at e0
   rw [m1] at e1
   rw [m2] at e2
   rw [m3] at e3
   clear hcs m0 m1 m2 m3 HSTk HST
   generalize body[k] = d at *
   have hki0 : (0 : Int) ≤ (k : Int) := by omega
   have hki1 : (k : Int) < (n : Int) := by omega
   go_wp2_with fail
   refine (HSU.out _ (HG.out.below ((Below.refl _ _).alloc (Nat.le_refl _) _)) (HB.out.alloc (by omega) _)).mono ?_
   rintro e w2 ⟨E, T3, rfl, b2, hz, hnz⟩
   have HB3 : Hid (Below w.heap.size w w2) := (HB.out.alloc (by omega) _).trans b2
   clear b2 HSU HG HB HR e0 e1 e2 e3
   by_cases hE : E = 0
   ·subst hE
    have HG3 : Hid (type_of% (hz rfl).1) := (hz rfl).1
    have HR3 : Hid (type_of% (hz rfl).2) := (hz rfl).2
    clear hz hnz
    go_wp2
    go_roundw
    case rel => exact ⟨k + 1, T3, by go_num, by omega, HG3, HR3, HB3⟩
    case measure => simp [intOf]; omega
   ·have hb0 : (E == 0) = false := by rw [beq_eq_false_iff_ne]; exact hE
    have hn0 : (E != 0) = true := by rw [bne, hb0]; rfl
    have HR3 : Hid (type_of% (hnz hE)) := hnz hE
    clear hz hnz
    go_wp2
    refine bodyPost_ret (results_tmp2 rfl _ _ _) rfl ?_
    exact ⟨by rw [HR3.out]; rfl, HB3.out⟩
  ·have HR3 : Hid (R = (0, 0)) := HR.out.last (by rw [HLn.out]; omega)
   clear HR HST
   go_wp2
   refine bodyPost_ret (results_tmp2 rfl _ _ _) rfl ?_
   exact ⟨by rw [HR3.out]; rfl, HB.out⟩
end Go.Proofs.YtlfihndbnaaodaaGreatDoor
