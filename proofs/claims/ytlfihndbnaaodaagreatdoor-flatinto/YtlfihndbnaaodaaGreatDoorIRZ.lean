/-
 Regions that draw their order and end in one store: what is said of the world need hold only till that store has come up, and no load that must precede it is moved behind it.
-/
import Derived.Deep.RegionHeld3
import Derived.Test.YtlfihndbnaaodaaGreatDoorProg
namespace Go.Proofs.YtlfihndbnaaodaaGreatDoor
set_option linter.unusedVariables false
section
variable {P : Program} {ops : Array Oper} {Q : Exit → Act → World → Prop} {md : Region.Mode} {S : World → Prop} {z : Nat}
def wpZ (P : Program) (md : Region.Mode) (ops : Array Oper) (Q : Exit → Act → World → Prop) (S : World → Prop) (z : Nat) : Nat → Array Bool → Act → World → Prop
 | 0, listed, a, w => Region.ready md ops listed = [] ∧ Q .normal a w
 | fuel + 1, listed, a, w => (Region.ready md ops listed = [] → Q .normal a w) ∧ ∀ i ∈ Region.ready md ops listed, wpOp P ops Q i (fun a' w' => ((listed.setIfInBounds i true).getD z true = false → S w') ∧ wpZ P md ops Q S z fuel (listed.setIfInBounds i true) a' w') a w
theorem wpZ_any : ∀ (fuel : Nat) (listed : Array Bool) (a : Act) (w : World), wpZ P md ops Q S z fuel listed a w → wpAny P md ops Q fuel listed a w
 | 0, _, _, _, h => h
 | fuel + 1, _, _, _, h => ⟨h.1, fun i hi => wpOp_mono (fun a' w' h' => wpZ_any fuel _ a' w' h'.2) (h.2 i hi)⟩
theorem wp_region_z {id : Nat} {a : Act} {w : World} (hm : P.follows .mixedOrders = true) (h : wpZ P .any ops Q S z ops.size (Array.replicate ops.size false) a w.drew) : (Code.region id ops true).wp P Q a w :=
 wp_region_any hm (wpZ_any _ _ _ _ h)
theorem wpZ_first {i : Nat} {oi : Oper} {v : Value} (Si : World → Prop) (Inv : Array Bool → Prop) (hz : i ≠ z) (hi : ops[i]? = some oi) (hsel : Region.noSelect ops = true)
  (hQ : ∀ c a w, Q (.panic c) (a.put oi.dst v) w → Q (.panic c) a w)
  (hInv : ∀ listed j, Inv listed → i ∈ Region.ready md ops listed → j ∈ Region.ready md ops listed → j ≠ i → Inv (listed.setIfInBounds j true) ∧ ∀ w', ((listed.setIfInBounds j true).getD z true = false → S w') → Si w') :
  ∀ (fuel : Nat) (listed : Array Bool) (a : Act) (w : World),
   (∀ j oj, ops[j]? = some oj → j ≠ i → listed.getD j true = false → (∀ e ∈ oj.after, Region.binds md e = true → e.on ≠ i) → oi.apart ops oj = true) →
   i ∈ Region.ready md ops listed → YieldsIf P ops Si oi v a → (listed.getD z true = false → S w) → Si w → Inv listed → wpZ P md ops Q S z fuel (listed.setIfInBounds i true) (a.put oi.dst v) w → wpZ P md ops Q S z (fuel + 1) listed a w := by
 have self : ∀ (listed : Array Bool) (w : World), (listed.getD z true = false → S w) → (listed.setIfInBounds i true).getD z true = false → S w := fun listed w h h2 => h (by rw [getD_set_ne true hz] at h2; exact h2)
 intro fuel
 induction fuel with
 | zero =>
  intro listed a w _ hr hy hS hSi _ H
  refine ⟨fun h => (by rw [h] at hr; cases hr), fun j hj => ?_⟩
  by_cases hji : j = i
  ·subst hji
   exact hy.wpOp hi hSi ⟨self listed w hS, H⟩
  ·have := ready_mono hj hji
   rw [H.1] at this
   cases this
 | succ fuel ih =>
  intro listed a w hfree hr hy hS hSi hI H
  refine ⟨fun h => (by rw [h] at hr; cases hr), fun j hj => ?_⟩
  by_cases hji : j = i
  ·subst hji
   exact hy.wpOp hi hSi ⟨self listed w hS, H⟩
  ·obtain ⟨hI2, hSj⟩ := hInv listed j hI hr hj hji
   have h1 := H.2 j (ready_mono hj hji)
   obtain ⟨hjun, oj, hoj, hall⟩ := mem_ready.1 hj
   have hnot : ∀ e ∈ oj.after, Region.binds md e = true → e.on ≠ i := fun e he hb heq => by
    have h1 := hall e he hb
    have h0 := (mem_ready.1 hr).1
    rw [heq] at h1
    rw [Array.getD_eq_getD_getElem?] at h0 h1
    cases hg : listed[i]? with
    | none => rw [hg] at h1; cases h1
    | some b => rw [hg] at h0 h1; simp at h0 h1; rw [h0] at h1; cases h1
   have h2 := wpOp_putIf hoj (hfree j oj hoj hji hjun hnot) (fun cs b => Region.noSelect_spec hsel i oi cs b hi) (fun cs b => Region.noSelect_spec hsel j oj cs b hoj) hQ hy h1
   have hfree' : ∀ k ok, ops[k]? = some ok → k ≠ i → (listed.setIfInBounds j true).getD k true = false → (∀ e ∈ ok.after, Region.binds md e = true → e.on ≠ i) → oi.apart ops ok = true := fun k ok hk hki hun hno => by
    refine hfree k ok hk hki ?_ hno
    by_cases hjk : j = k
    ·subst hjk; exact hjun
    ·rw [getD_set_ne true hjk] at hun; exact hun
   refine wpOp_mono (fun a' w' h3 => ?_) h2
   have hS' : (listed.setIfInBounds j true).getD z true = false → S w' := fun hq => h3.2.1 (by rw [Array.setIfInBounds_comm _ _ (Ne.symm hji), getD_set_ne true hz]; exact hq)
   refine ⟨hS', ih (listed.setIfInBounds j true) a' w' hfree' (ready_mono hr (Ne.symm hji)) h3.1 hS' (hSj w' hS') hI2 ?_⟩
   rw [Array.setIfInBounds_comm _ _ hji]
   exact h3.2.2
def waitB (md : Region.Mode) (ops : Array Oper) (i : Nat) (p : List Nat) : Bool := p.all fun g => (ops[g]?).any fun o => o.after.any fun e => Region.binds md e && (e.on == i || p.contains e.on)
theorem wpZ_load {i : Nat} (p : List Nat) {oi : Oper} {v : Value} {fuel : Nat} {listed : Array Bool} {a a' : Act} {w : World} (hl : ops.toList[i]? = some oi)
  (hs : Region.noSelect ops = true) (hf : Region.free md ops listed i = true) (hr : (Region.ready md ops listed).contains i = true) (hp : waitB md ops i p = true) (hu : (p.all fun g => !listed.getD g true) = true) (hzp : (p.contains z && !(i == z)) = true)
  (hQ : ∀ c a w, Q (.panic c) (a.put oi.dst v) w → Q (.panic c) a w) (hy : YieldsIf P ops S oi v a) (hS : S w)
  (h : wpZ P md ops Q S z fuel (listed.setIfInBounds i true) a' w) (ha : a.put oi.dst v = a' := by first | (simp only [Act.put, List.setIfInBounds_toArray, List.set_cons_zero, List.set_cons_succ]; done) | (simp only [Act.put, List.setIfInBounds_toArray, List.set_cons_zero, List.set_cons_succ]; rfl) | rfl) : wpZ P md ops Q S z (fuel + 1) listed a w := by
 have hi : ops[i]? = some oi := by rw [← hl, Array.getElem?_toList]
 subst ha
 simp only [Bool.and_eq_true, Bool.not_eq_true', beq_eq_false_iff_ne, List.contains_eq_mem, decide_eq_true_eq] at hzp
 refine wpZ_first S (fun l => ∀ g ∈ p, l.getD g true = false) hzp.2 hi hs hQ ?_ fuel listed a w (Region.free_spec hi hf) (by simpa using hr) hy (fun _ => hS) hS (fun g hg => by simpa using List.all_eq_true.1 hu g hg) h
 intro l j hI hri hrj hji
 have hjp : j ∉ p := fun hjp => by
  obtain ⟨_, o, ho, hall⟩ := mem_ready.1 hrj
  have hw := List.all_eq_true.1 hp j hjp
  rw [ho] at hw
  simp only [Option.any_some] at hw
  obtain ⟨e, he, hb⟩ := Array.any_eq_true'.1 hw
  simp only [Bool.and_eq_true, Bool.or_eq_true, beq_iff_eq, List.contains_eq_mem, decide_eq_true_eq] at hb
  have hl := hall e he hb.1
  have hn : l.getD e.on true = false := by
   rcases hb.2 with q | q
   ·rw [q]; exact (mem_ready.1 hri).1
   ·exact hI _ q
  rw [Array.getD_eq_getD_getElem?] at hl hn
  cases hg : l[e.on]? with
  | none => rw [hg] at hl; cases hl
  | some b => rw [hg] at hl hn; simp at hl hn; rw [hl] at hn; cases hn
 have hI2 : ∀ g ∈ p, (l.setIfInBounds j true).getD g true = false := fun g hg => by
  rw [getD_set_ne true (fun e => hjp (by rw [e]; exact hg))]
  exact hI g hg
 exact ⟨hI2, fun w' hq => hq (hI2 z hzp.1)⟩
theorem wpZ_take {i : Nat} {oi : Oper} {v : Value} {fuel : Nat} {listed : Array Bool} {a a' : Act} {w : World} (hl : ops.toList[i]? = some oi)
  (hs : Region.noSelect ops = true) (hf : Region.free md ops listed i = true) (hr : (Region.ready md ops listed).contains i = true) (hz : (!(i == z)) = true)
  (hQ : ∀ c a w, Q (.panic c) (a.put oi.dst v) w → Q (.panic c) a w) (hy : YieldsIf P ops (fun _ => True) oi v a) (hS : S w)
  (h : wpZ P md ops Q S z fuel (listed.setIfInBounds i true) a' w) (ha : a.put oi.dst v = a' := by first | (simp only [Act.put, List.setIfInBounds_toArray, List.set_cons_zero, List.set_cons_succ]; done) | (simp only [Act.put, List.setIfInBounds_toArray, List.set_cons_zero, List.set_cons_succ]; rfl) | rfl) : wpZ P md ops Q S z (fuel + 1) listed a w := by
 have hi : ops[i]? = some oi := by rw [← hl, Array.getElem?_toList]
 subst ha
 exact wpZ_first (fun _ => True) (fun _ => True) (by simpa using hz) hi hs hQ (fun _ _ _ _ _ _ => ⟨trivial, fun _ _ => trivial⟩) fuel listed a w (Region.free_spec hi hf) (by simpa using hr) hy (fun _ => hS) trivial trivial h
theorem wpZ_one {i : Nat} {oi : Oper} {fuel : Nat} {listed : Array Bool} {a : Act} {w : World} (hl : ops.toList[i]? = some oi) (hr : Region.ready md ops listed = [i]) (hw : Region.wanted oi (yielded ops a.tmps) = true)
  (h : ∀ (K : Act → World → Prop) (R : Exit → Act → World → Prop), Shut (∀ a w, S w → (S w → wpZ P md ops Q S z fuel (listed.setIfInBounds i true) a w) → K a w) → Oper.wp P oi a w K R) : wpZ P md ops Q S z (fuel + 1) listed a w := by
 have hi : ops[i]? = some oi := by rw [← hl, Array.getElem?_toList]
 refine ⟨fun h0 => (by rw [hr] at h0; cases h0), fun j hj => ?_⟩
 rw [hr, List.mem_singleton] at hj
 subst hj
 exact wpOp_step hi (fun K hK => by rw [if_pos hw]; exact h K Q (fun a w hS hW => hK a w ⟨fun _ => hS, hW hS⟩))
theorem wpZ_call {i f : Nat} {args : Array Value} {C : Ending → World → Prop} {oi : Oper} {fuel : Nat} {listed : Array Bool} {a : Act} {w : World} (hl : ops.toList[i]? = some oi) (hr : Region.ready md ops listed = [i]) (hw : Region.wanted oi (yielded ops a.tmps) = true)
  (he : (execOp a.eval oi).run P w = .ok (.enter f args) w) (hc : Calls P f args w C) (h : ∀ r w', C r w' → ∃ v, r = .returned v ∧ S w' ∧ (S w' → wpZ P md ops Q S z fuel (listed.setIfInBounds i true) (a.put oi.dst v) w')) : wpZ P md ops Q S z (fuel + 1) listed a w := by
 refine wpZ_one hl hr hw (fun K R hK => ?_)
 unfold Oper.wp
 rw [he, Oper.upon_enter]
 refine hc.mono (fun r w' hC => ?_)
 obtain ⟨v, rfl, hS, hW⟩ := h r w' hC
 exact hK.out _ _ hS hW
theorem wpZ_put {fuel : Nat} {listed : Array Bool} {a a' : Act} {w : World} (h : wpZ P md ops Q S z fuel listed a' w)
  (ha : a = a' := by first | (simp only [Act.put, List.setIfInBounds_toArray, List.set_cons_zero, List.set_cons_succ]; done) | (simp only [Act.put, List.setIfInBounds_toArray, List.set_cons_zero, List.set_cons_succ]; rfl) | rfl) : wpZ P md ops Q S z fuel listed a w := by
 subst ha
 exact h
theorem wpZ_last {oi : Oper} {fuel : Nat} {listed : Array Bool} {a : Act} {w : World} (hl : ops.toList[z]? = some oi) (hr : Region.ready md ops listed = [z]) (hlt : decide (z < listed.size) = true) (hd : Region.ready md ops (listed.setIfInBounds z true) = []) (hw : Region.wanted oi (yielded ops a.tmps) = true)
  (h : ∀ (K : Act → World → Prop) (R : Exit → Act → World → Prop), Shut (∀ a w, Q .normal a w → K a w) → Oper.wp P oi a w K R) : wpZ P md ops Q S z (fuel + 1) listed a w := by
 have hi : ops[z]? = some oi := by rw [← hl, Array.getElem?_toList]
 refine ⟨fun h0 => (by rw [hr] at h0; cases h0), fun j hj => ?_⟩
 rw [hr, List.mem_singleton] at hj
 subst hj
 refine wpOp_step hi (fun K hK => by
  rw [if_pos hw]
  refine h K Q (fun a w hq => hK a w ⟨fun hb => ?_, ?_⟩)
  ·rw [Array.getD_eq_getD_getElem?] at hb
   simp [of_decide_eq_true hlt] at hb
  ·cases fuel with
   | zero => exact ⟨hd, hq⟩
   | succ n => exact ⟨fun _ => hq, by rw [hd]; simp⟩)
end
end Go.Proofs.YtlfihndbnaaodaaGreatDoor
