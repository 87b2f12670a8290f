/-
 ValidHeads: what the program's Head says of a module is what the document's own ValidHead says.
-/
import Derived.Test.YtmemiohompdibaaGreatDoorAVH10
import Derived.Deep.RegionHeld3
set_option maxHeartbeats 4000000
set_option maxRecDepth 1000000
namespace Go.Proofs.YtmemiohompdibaaGreatDoor
open Go.RowKit
set_option linter.unusedVariables false
theorem typD_parts {m : ModD} (h : typD m = 0) : (∀ d ∈ m.imports, d.n < (m.types.length : Int)) ∧ ∀ d ∈ m.funcs, d.t < (m.types.length : Int) := by
 rw [typD_eq] at h
 have h1 := okE_eq0 (by decide) h
 rw [Bool.and_eq_true, List.all_eq_true, List.all_eq_true] at h1
 exact ⟨fun d hd => of_decide_eq_true (h1.1 d hd), fun d hd => of_decide_eq_true (h1.2 d hd)⟩
theorem sigAt_mem {w : World} {m : ModD} (hm : m.ok w) (h0 : mChk m = 0) (h2 : typD m = 0) (k : Nat) (hk : k < m.imports.length + m.funcs.length) : sigAt m.types m.imports m.funcs k ∈ m.types := by
 have g := fair_of hm h0
 have p := typD_parts h2
 unfold sigAt
 by_cases h : k < m.imports.length
 ·rw [if_pos h, getElem!_pos m.imports k h]
  have a := p.1 _ (List.getElem_mem h)
  have b := g.im _ (List.getElem_mem h)
  rw [getElem!_pos m.types _ (by omega)]
  exact List.getElem_mem _
 ·rw [if_neg h, getElem!_pos m.funcs (k - m.imports.length) (by omega)]
  have a := p.2 _ (List.getElem_mem (show k - m.imports.length < m.funcs.length by omega))
  have b := g.fu _ (List.getElem_mem (show k - m.imports.length < m.funcs.length by omega))
  rw [getElem!_pos m.types _ (by omega)]
  exact List.getElem_mem _
theorem validHead_any (m : ModD) (w : World) (hm : m.ok w) (hs : SmallM m 1048576) (hM : MaxIn w) :
  Calls Tryz.prog 10 #[.agg (mcA m)] w fun r w' => r = .returned (.int .i64 (headD m)) ∧ Below w.heap.size w w' := by
 have hbc : ∀ w', Below w.heap.size w w' → Calls Tryz.prog 32 #[.agg (mcA m)] w' fun r w'' => r = .returned (.int .i64 (mChk m)) ∧ Below w'.heap.size w' w'' := fun w' b => binCheck_any m w' (hm.below b) hs (maxIn_below hM b)
 have hg : mChk m = 0 → m.types.length ≤ 16 ∧ m.imports.length ≤ 16 ∧ m.funcs.length ≤ 16 ∧ m.exports.length ≤ 8 ∧ m.elems.length ≤ 4 ∧ m.data.length ≤ 4 ∧ 0 ≤ m.start ∧ m.start ≤ 4294967295 ∧ ∀ d ∈ m.elems, d.f.n ≤ 16 := fun h0 => by
  have g := fair_of hm h0
  have e := small_of h0
  exact ⟨g.nT, g.nI, g.nF, g.nE, e.1, e.2, g.st.1, g.st.2, fun d hd => (g.el d hd).1⟩
 have ht : mChk m = 0 → typD m = 0 → (∀ i, i < m.imports.length → 0 ≤ (m.imports[i]!).n ∧ (m.imports[i]!).n < (m.types.length : Int)) ∧ ∀ i, i < m.funcs.length → 0 ≤ (m.funcs[i]!).t ∧ (m.funcs[i]!).t < (m.types.length : Int) := fun h0 h2 => by
  have g := fair_of hm h0
  have p := typD_parts h2
  exact ⟨bang (p := fun d : NamD => 0 ≤ d.n ∧ d.n < (m.types.length : Int)) fun d hd => ⟨g.im d hd, p.1 d hd⟩, bang (p := fun d : FunD => 0 ≤ d.t ∧ d.t < (m.types.length : Int)) fun d hd => ⟨g.fu d hd, p.2 d hd⟩⟩
 by_cases hx : m.start - 1 < (m.imports.length : Int) + (m.funcs.length : Int)
 ·obtain ⟨S, hS⟩ : ∃ S, S = sigAt m.types m.imports m.funcs (m.start - 1).toNat := ⟨_, rfl⟩
  refine vhead_core m.oT m.oI m.oF m.oG m.oE m.oL m.oD m.types.length m.cT m.imports.length m.cI m.funcs.length m.cF m.globals.length m.cG m.exports.length m.cE m.elems.length m.cL m.data.length m.cD m.table m.pages m.most m.start w m.imports hm.imports rfl m.funcs hm.funcs rfl m.exports hm.exports rfl m.elems hm.elems rfl (mChk m) (typD m) (startD m.types m.imports m.funcs m.start) _ (headD m) hbc hg rfl S.i.o S.r.o S.i.n S.i.cap S.r.n S.r.cap true ?_ ?_ ?_ rfl rfl
  ·intro h0 h2 hp
   have g := fair_of hm h0
   rw [hS]
   exact g.ty _ (sigAt_mem hm h0 h2 _ (by omega))
  ·intro h0 h2 hp w' b
   have g := fair_of hm h0
   have hm' := hm.below b
   exact sig_of m.oT m.oI m.oF m.oG m.oE m.oL m.oD m.types.length m.cT m.imports.length m.cI m.funcs.length m.cF m.globals.length m.cG m.exports.length m.cE m.elems.length m.cL m.data.length m.cD m.table m.pages m.most m.start w' m.types hm'.types rfl m.imports hm'.imports rfl m.funcs hm'.funcs rfl g.nI g.nF (m.start - 1) (by omega) (by have := g.st.2; omega) S.i.o S.r.o S.i.n S.i.cap S.r.n S.r.cap true (fun _ => by rw [hS]; exact ⟨rfl, rfl, rfl, rfl, rfl, rfl, rfl⟩) (fun h => absurd hx h) (ht h0 h2).1 (ht h0 h2).2
  ·refine ⟨fun hp => ?_, fun hz => by rw [hz]; rfl⟩
   unfold startD
   rw [if_pos hp, if_pos hx, ← hS]
   exact (fstE_zero _).symm
 ·refine vhead_core m.oT m.oI m.oF m.oG m.oE m.oL m.oD m.types.length m.cT m.imports.length m.cI m.funcs.length m.cF m.globals.length m.cG m.exports.length m.cE m.elems.length m.cL m.data.length m.cD m.table m.pages m.most m.start w m.imports hm.imports rfl m.funcs hm.funcs rfl m.exports hm.exports rfl m.elems hm.elems rfl (mChk m) (typD m) (startD m.types m.imports m.funcs m.start) _ (headD m) hbc hg rfl none none 0 0 0 0 false (fun _ _ _ => ⟨by omega, by omega⟩) ?_ ?_ rfl rfl
  ·intro h0 h2 hp w' b
   have g := fair_of hm h0
   have hm' := hm.below b
   exact sig_of m.oT m.oI m.oF m.oG m.oE m.oL m.oD m.types.length m.cT m.imports.length m.cI m.funcs.length m.cF m.globals.length m.cG m.exports.length m.cE m.elems.length m.cL m.data.length m.cD m.table m.pages m.most m.start w' m.types hm'.types rfl m.imports hm'.imports rfl m.funcs hm'.funcs rfl g.nI g.nF (m.start - 1) (by omega) (by have := g.st.2; omega) none none 0 0 0 0 false (fun h => absurd h hx) (fun _ => ⟨rfl, rfl, rfl, rfl, rfl, rfl, rfl⟩) (ht h0 h2).1 (ht h0 h2).2
  ·refine ⟨fun hp => ?_, fun hz => by rw [hz]; rfl⟩
   unfold startD
   rw [if_pos hp, if_neg hx]
   rfl
theorem vheads_core (oT oI oF oG oE oL oD : Option Addr) (nT kT nI kI nF kF nG kG nE kE nL kL nD kD : Nat) (t p q s : Int) (e : Int) (w : World)
  (HC : Hid (∀ w', Below (w.heap.size + 1) (w.alloc (.cells #[.slice oT nT kT, .slice oI nI kI, .slice oF nF kF, .int .i64 t, .int .i64 p, .int .i64 q, .slice oG nG kG, .slice oE nE kE, .int .i64 s, .slice oL nL kL, .slice oD nD kD] 30)) w' → Calls Tryz.prog 9 #[.agg #[.slice oT nT kT, .slice oI nI kI, .slice oF nF kF, .int .i64 t, .int .i64 p, .int .i64 q, .slice oG nG kG, .slice oE nE kE, .int .i64 s, .slice oL nL kL, .slice oD nD kD]] w' fun r w'' => r = .returned (.int .i64 e) ∧ Below w'.heap.size w' w''))
  (HD : Hid (∀ w', Below (w.heap.size + 1) (w.alloc (.cells #[.slice oT nT kT, .slice oI nI kI, .slice oF nF kF, .int .i64 t, .int .i64 p, .int .i64 q, .slice oG nG kG, .slice oE nE kE, .int .i64 s, .slice oL nL kL, .slice oD nD kD] 30)) w' → Calls Tryz.prog 10 #[.agg #[.slice oT nT kT, .slice oI nI kI, .slice oF nF kF, .int .i64 t, .int .i64 p, .int .i64 q, .slice oG nG kG, .slice oE nE kE, .int .i64 s, .slice oL nL kL, .slice oD nD kD]] w' fun r w'' => r = .returned (.int .i64 e) ∧ Below w'.heap.size w' w'')) :
  Calls Tryz.prog 3 #[.agg #[.slice oT nT kT, .slice oI nI kI, .slice oF nF kF, .int .i64 t, .int .i64 p, .int .i64 q, .slice oG nG kG, .slice oE nE kE, .int .i64 s, .slice oL nL kL, .slice oD nD kD]] w fun r w' => r = .returned (.bool true) ∧ Below w.heap.size w w' := by
 go_enter Tryz.func3, Tryz.ntmps3
 go_wp2
 go_region_held3 (fun w' => w'.cell? ⟨w.heap.size, 0, none⟩ = some (.slice oT nT kT) ∧ w'.cell? ⟨w.heap.size, 1, none⟩ = some (.slice oI nI kI) ∧ w'.cell? ⟨w.heap.size, 2, none⟩ = some (.slice oF nF kF) ∧ w'.cell? ⟨w.heap.size, 3, none⟩ = some (.int .i64 t) ∧ w'.cell? ⟨w.heap.size, 4, none⟩ = some (.int .i64 p) ∧ w'.cell? ⟨w.heap.size, 5, none⟩ = some (.int .i64 q) ∧ w'.cell? ⟨w.heap.size, 6, none⟩ = some (.slice oG nG kG) ∧ w'.cell? ⟨w.heap.size, 7, none⟩ = some (.slice oE nE kE) ∧ w'.cell? ⟨w.heap.size, 8, none⟩ = some (.int .i64 s) ∧ w'.cell? ⟨w.heap.size, 9, none⟩ = some (.slice oL nL kL) ∧ w'.cell? ⟨w.heap.size, 10, none⟩ = some (.slice oD nD kD))
  (first | exact cells11 bch | go_keep)
  (first
   | (go_at_call 9; (fail_if_success (have := HT1)); refine (HC.out _ ?_).mono ?_; exact bch; rintro r w1 ⟨rfl, b1⟩; have HT1 : Hid True := trivial; have HA1 : Hid (Below (w.heap.size + 1) (w.alloc (.cells #[.slice oT nT kT, .slice oI nI kI, .slice oF nF kF, .int .i64 t, .int .i64 p, .int .i64 q, .slice oG nG kG, .slice oE nE kE, .int .i64 s, .slice oL nL kL, .slice oD nD kD] 30)) w1) := (by (refine Below.trans ?_ (b1.mono ?_) <;> first | exact bch | exact bcl)); have hs1 : w.heap.size + 1 ≤ w1.heap.size := box_size HA1.out; clear b1)
   | (go_at_call 10; (fail_if_success (have := HT2)); refine (HD.out _ ?_).mono ?_; exact bch; rintro r w2 ⟨rfl, b2⟩; have HT2 : Hid True := trivial; have HA2 : Hid (Below (w.heap.size + 1) (w.alloc (.cells #[.slice oT nT kT, .slice oI nI kI, .slice oF nF kF, .int .i64 t, .int .i64 p, .int .i64 q, .slice oG nG kG, .slice oE nE kE, .int .i64 s, .slice oL nL kL, .slice oD nD kD] 30)) w2) := (by (refine Below.trans ?_ (b2.mono ?_) <;> first | exact bch | exact bcl)); have hs2 : w.heap.size + 1 ≤ w2.heap.size := box_size HA2.out; clear b2))
 all_goals
  go_wp2
  go_ret
  exact ⟨rfl, Below.trans ((Below.refl _ _).alloc (Nat.le_refl _) _) (HA2.out.mono (Nat.le_succ _))⟩
theorem validHeads_walk (m : ModD) (w : World) (hA : Amb w) (hM : MaxIn w) (hm : m.ok w) (hs : SmallM m 1048576) :
  Calls Tryz.prog 3 #[.agg (mcA m)] w fun r w' => r = .returned (.bool true) ∧ Below w.heap.size w w' := by
 have hx : ∀ w', Below (w.heap.size + 1) (w.alloc (.cells (mcA m) 30)) w' → Below w.heap.size w w' := fun w' b => ((Below.refl _ _).alloc (Nat.le_refl _) _ : Below w.heap.size w (w.alloc (.cells (mcA m) 30))).trans (b.mono (Nat.le_succ _))
 exact vheads_core m.oT m.oI m.oF m.oG m.oE m.oL m.oD m.types.length m.cT m.imports.length m.cI m.funcs.length m.cF m.globals.length m.cG m.exports.length m.cE m.elems.length m.cL m.data.length m.cD m.table m.pages m.most m.start (headErr m) w (fun w' b => head_mod m w' (hA.below (hx w' b)) (hm.below (hx w' b))) (fun w' b => by rw [← headD_eq m hm]; exact validHead_any m w' (hm.below (hx w' b)) hs (maxIn_below hM (hx w' b)))
end Go.Proofs.YtmemiohompdibaaGreatDoor
