/-
 What the reading of a body says, over lists of bytes: plain mathematics.
 A list of instructions that a call itself makes.
 The document's own SameBody of two bodies that are one.
 What the document's own InsRead does.
 A call's contract in a world whose shape is known, what the row lists laid: it returns.
-/
import Derived.Test.YtkceplamaocmmaaGreatDoorZGNst
import Derived.Test.YtkceplamaocmmaaGreatDoorZGVal
import Derived.Deep.RegionWith
import Derived.Test.YtkceplamaocmmaaGreatDoorZPQ
import Derived.Test.YtkceplamaocmmaaGreatDoorZGWid
import Derived.Deep.RegionLaw
import Derived.Deep.AppendLies
import Derived.Handed
import Derived.Test.YtkceplamaocmmaaGreatDoorRows
set_option maxHeartbeats 4000000
set_option maxRecDepth 1000000
namespace Go.Proofs.YtkceplamaocmmaaGreatDoor
set_option linter.unusedVariables false
open Go.RowKit
structure V4 where
 op : Int
 A : Int
 B : Int
 xs : List Int
def InsD.val (d : InsD) : V4 := ⟨d.op, d.A, d.B, d.xs⟩
def V4.chk (v : V4) : Int := chkV v.op v.A v.B v.xs.length v.xs
end Go.Proofs.YtkceplamaocmmaaGreatDoor
namespace Go.Proofs.YtkceplamaocmmaaGreatDoor
set_option linter.unusedVariables false
open Go.RowKit
theorem Tryz.infoIns : (Tryz.prog.info? 34).map (fun i => (i.zero, i.size, i.bytes)) = some (some (.agg #[.int .u8 0, .int .i64 0, .int .i64 0, .slice none 0 0]), 4, 48) := by kernel_rfl
def InsD.cells (d : InsD) : List Value := [.int .u8 d.op, .int .i64 d.A, .int .i64 d.B, .slice d.o d.n d.cap]
def cellsOf (L : List InsD) : List Value := L.flatMap InsD.cells
theorem cellsOf_at : ∀ (L : List InsD) (i r : Nat) (h : i < L.length), r < 4 → (cellsOf L)[i * 4 + r]? = (L[i]).cells[r]?
 | [], i, r, h, _ => absurd h (by simp)
 | d :: L, 0, r, h, hr => by
  unfold cellsOf
  rw [List.flatMap_cons, List.getElem?_append_left (by simp [InsD.cells]; omega)]
  simp
 | d :: L, i + 1, r, h, hr => by
  have h2 : i < L.length := by simpa using h
  have := cellsOf_at L i r h2 hr
  unfold cellsOf at this ⊢
  rw [List.flatMap_cons, List.getElem?_append_right (by simp [InsD.cells]; omega)]
  rw [show (i + 1) * 4 + r - d.cells.length = i * 4 + r by simp [InsD.cells]; omega, this]
  simp
structure IR (w : World) (B : Nat) (o : Option Addr) (k cap : Nat) (L : List InsD) : Prop where
 own : w.ownsRow B 34 4 (.slice o k cap) k (cellsOf L)
 len : L.length = k
 ok : ∀ d ∈ L, d.ok w
 ty : ∀ d ∈ L, 0 < d.n → ∃ (g : Addr) (cur : Array Value) (f : Nat × Nat), d.o = some g ∧ w.heap[g.block]? = some (.cells cur 2 f)
theorem ok_keep {w w' : World} {d : InsD} (h : d.ok w) (hs : w.heap.size ≤ w'.heap.size) (hk : 0 < d.n → ∀ g, d.o = some g → w'.heap[g.block]? = w.heap[g.block]?) : d.ok w' := by
 refine ⟨h.op0, h.op1, h.a, h.cap, h.most, ?_, h.nil⟩
 obtain ⟨h1, h2⟩ := h.lj
 refine ⟨h1, ?_⟩
 rcases h2 with h2 | ⟨a, ha, hb, hc⟩
 ·exact Or.inl h2
 ·rcases Nat.eq_zero_or_pos d.n with h0 | h0
  ·exact Or.inl h0
  ·refine Or.inr ⟨a, ha, Nat.lt_of_lt_of_le hb hs, fun i hi => ?_⟩
   rw [World.cell?_of_block (w := w) (by rw [add_block]; exact hk h0 a ha)]
   exact hc i hi
theorem IR.keep {w w' : World} {B k cap : Nat} {o : Option Addr} {L : List InsD} (h : IR w B o k cap L) (hs : w.heap.size ≤ w'.heap.size) (h2 : ∀ (j : Nat) (cur : Array Value) (f : Nat × Nat), w.heap[j]? = some (.cells cur 2 f) → w'.heap[j]? = w.heap[j]?) (h52 : ∀ (j : Nat) (cur : Array Value) (f : Nat × Nat), w.heap[j]? = some (.cells cur 34 f) → w'.heap[j]? = w.heap[j]?) : IR w' B o k cap L := by
 refine ⟨⟨h.own.1, ?_⟩, h.len, fun d hd => ok_keep (h.ok d hd) hs fun h0 g hg => ?_, fun d hd h0 => ?_⟩
 ·rcases h.own.2 with hn | ⟨g, c, cur, hv, hb, hg, rest⟩
  ·exact Or.inl hn
  ·exact Or.inr ⟨g, c, cur, hv, hb, by rw [h52 g cur _ hg]; exact hg, rest⟩
 ·obtain ⟨g', cur, f, e, hc⟩ := h.ty d hd h0
  rw [hg] at e
  cases e
  exact h2 _ _ _ hc
 ·obtain ⟨g', cur, f, e, hc⟩ := h.ty d hd h0
  exact ⟨g', cur, f, e, by rw [h2 _ _ _ hc]; exact hc⟩
theorem some_lt {w : World} {j : Nat} {x : Obj} (h : w.heap[j]? = some x) : j < w.heap.size := (Array.getElem?_eq_some_iff.1 h).1
theorem IR.under {w w' : World} {B k cap : Nat} {o : Option Addr} {L : List InsD} (h : IR w B o k cap L) (b : Below w.heap.size w w') : IR w' B o k cap L :=
 h.keep b.size (fun j _ _ hj => b.block j (some_lt hj)) (fun j _ _ hj => b.block j (some_lt hj))
theorem IR.LD {w : World} {B k cap : Nat} {o : Option Addr} {L : List InsD} (h : IR w B o k cap L) : LD w o L := by
 refine ⟨h.ok, ?_⟩
 rcases Nat.eq_zero_or_pos k with h0 | h0
 ·left
  have := h.len
  rw [h0] at this
  exact List.length_eq_zero_iff.1 this
 ·right
  obtain ⟨g, c, hv, _, hg⟩ := h.own.form h0
  simp only [Value.slice.injEq] at hv
  obtain ⟨rfl, _, rfl⟩ := hv
  refine ⟨g, 0, rfl, hg, fun i hi => ?_⟩
  have hik : i < k := by rw [← h.len]; exact hi
  have q : ∀ r, r < 4 → w.cell? ⟨g, 0 + i * 4 + r, none⟩ = (L[i]).cells[r]? := fun r hr => by
   rw [← cellsOf_at L i r hi hr, ← h.own.cellAt (i * 4 + r) (by omega), Nat.zero_add]
  exact ⟨q 0 (by omega), q 1 (by omega), q 2 (by omega), q 3 (by omega)⟩
end Go.Proofs.YtkceplamaocmmaaGreatDoor
namespace Go.Proofs.YtkceplamaocmmaaGreatDoor
set_option linter.unusedVariables false
open Go.RowKit
theorem sameAll_core (b f b2 f2 cap cap2 n : Nat) (hn : n ≤ 9223372036854775807) (_hc1 : n ≤ cap) (_hc2 : n ≤ cap2) (L M : List InsD) (w : World) (hbw : b < w.heap.size) (hbw2 : b2 < w.heap.size) (HL : Hid (L.length = n)) (HM : Hid (M.length = n))
  (HC : Hid (∀ i (h : i < L.length), w.cell? ⟨b, f + i * 4, none⟩ = some (.int .u8 (L[i]).op) ∧ w.cell? ⟨b, f + i * 4 + 1, none⟩ = some (.int .i64 (L[i]).A) ∧ w.cell? ⟨b, f + i * 4 + 2, none⟩ = some (.int .i64 (L[i]).B) ∧ w.cell? ⟨b, f + i * 4 + 3, none⟩ = some (.slice (L[i]).o (L[i]).n (L[i]).cap)))
  (HC2 : Hid (∀ i (h : i < M.length), w.cell? ⟨b2, f2 + i * 4, none⟩ = some (.int .u8 (M[i]).op) ∧ w.cell? ⟨b2, f2 + i * 4 + 1, none⟩ = some (.int .i64 (M[i]).A) ∧ w.cell? ⟨b2, f2 + i * 4 + 2, none⟩ = some (.int .i64 (M[i]).B) ∧ w.cell? ⟨b2, f2 + i * 4 + 3, none⟩ = some (.slice (M[i]).o (M[i]).n (M[i]).cap)))
  (HSI : Hid (∀ i (h : i < L.length) (h2 : i < M.length) w', Below w.heap.size w w' → Calls Tryz.prog 14 #[.agg #[.int .u8 (L[i]).op, .int .i64 (L[i]).A, .int .i64 (L[i]).B, .slice (L[i]).o (L[i]).n (L[i]).cap], .agg #[.int .u8 (M[i]).op, .int .i64 (M[i]).A, .int .i64 (M[i]).B, .slice (M[i]).o (M[i]).n (M[i]).cap]] w' fun r w'' => r = .returned (.bool true) ∧ Below w'.heap.size w' w'')) :
  Calls Tryz.prog 13 #[.slice (some ⟨b, f, none⟩) n cap, .slice (some ⟨b2, f2, none⟩) n cap2, .func (.func 14) #[] #[]] w fun r w' => r = .returned (.bool true) ∧ Below w.heap.size w w' := by
 go_enter Tryz.func13, Tryz.ntmps13
 go_wp2
 go_loopw [15] (fun i wr => ∃ k : Nat, i = .int .i64 k ∧ k ≤ n ∧ Hid (Below w.heap.size w wr)) (fun i _ => n - (intOf i).toNat)
 case atStart => exact ⟨0, rfl, by omega, Below.refl _ _⟩
 case round =>
  obtain ⟨k, rfl, hk, HB⟩ := hrel
  by_cases hlt : k < n
  ·have hkl : k < L.length := by rw [HL.out]; exact hlt
   have hkm : k < M.length := by rw [HM.out]; exact hlt
   obtain ⟨m0, m1, m2, m3⟩ := HC.out k hkl
   obtain ⟨p0, p1, p2, p3⟩ := HC2.out k hkm
   have e0 := HB.out.cell (p := ⟨b, f + k * 4, none⟩) hbw
   have e1 := HB.out.cell (p := ⟨b, f + k * 4 + 1, none⟩) hbw
   have e2 := HB.out.cell (p := ⟨b, f + k * 4 + 2, none⟩) hbw
   have e3 := HB.out.cell (p := ⟨b, f + k * 4 + 3, none⟩) hbw
   have q0 := HB.out.cell (p := ⟨b2, f2 + k * 4, none⟩) hbw2
   have q1 := HB.out.cell (p := ⟨b2, f2 + k * 4 + 1, none⟩) hbw2
   have q2 := HB.out.cell (p := ⟨b2, f2 + k * 4 + 2, none⟩) hbw2
   have q3 := HB.out.cell (p := ⟨b2, f2 + k * 4 + 3, none⟩) hbw2
   rw [m0] at e0
   rw [m1] at e1
   rw [m2] at e2
   rw [m3] at e3
   rw [p0] at q0
   rw [p1] at q1
   rw [p2] at q2
   rw [p3] at q3
   have hS := HSI.out k hkl hkm
   generalize L[k] = d at e0 e1 e2 e3 hS
   generalize M[k] = x at q0 q1 q2 q3 hS
   have HS : Hid (type_of% hS) := hS
   clear hS m0 m1 m2 m3 p0 p1 p2 p3
   have hki0 : (0 : Int) ≤ (k : Int) := by omega
   have hki1 : (k : Int) < (n : Int) := by omega
   go_wp2
   go_region_with (go_at_call 14; refine (HS.out _ HB.out.drew).mono ?_; rintro r w2 ⟨rfl, b2'⟩)
   all_goals
    have HB2 : Hid (Below w.heap.size w w2) := HB.out.drew.trans (b2'.mono HB.out.size)
    clear b2'
    go_wp2
    go_roundw
    case rel => exact ⟨k + 1, by go_num, by omega, HB2⟩
    case measure => simp [intOf]; omega
  ·go_wp2
   go_ret
   exact ⟨rfl, HB.out⟩
theorem sameAll_nil (o o2 : Option Addr) (cap cap2 : Nat) (w : World) :
  Calls Tryz.prog 13 #[.slice o 0 cap, .slice o2 0 cap2, .func (.func 14) #[] #[]] w fun r w' => r = .returned (.bool true) ∧ Below w.heap.size w w' := by
 go_enter Tryz.func13, Tryz.ntmps13
 go_wp2
 go_loopw [15] (fun i wr => i = .int .i64 0 ∧ wr = w) (fun _ _ => 0)
 case atStart => exact ⟨rfl, rfl⟩
 case round =>
  obtain ⟨rfl, rfl⟩ := hrel
  go_wp2
  go_ret
  exact ⟨rfl, Below.refl _ _⟩
theorem sameBody_core (v u : Value) (w : World) (HS : Hid (Calls Tryz.prog 13 #[v, u, .func (.func 14) #[] #[]] w fun r w' => r = .returned (.bool true) ∧ Below w.heap.size w w')) :
  Calls Tryz.prog 6 #[v, u] w fun r w' => r = .returned (.bool true) ∧ Below w.heap.size w w' := by
 go_enter Tryz.func6, Tryz.ntmps6
 go_wp2_with fail
 refine HS.out.mono ?_
 rintro r w1 ⟨rfl, b⟩
 go_wp2
 go_ret
 exact ⟨rfl, b⟩
theorem sameBody_any (o o2 : Option Addr) (cap cap2 : Nat) (L M : List InsD) (w : World) (h : LD w o L) (h2 : LD w o2 M) (hc : L.length ≤ cap) (hc2 : M.length ≤ cap2) (hm : cap ≤ maxLen) (hv : L.map InsD.val = M.map InsD.val) :
  Calls Tryz.prog 6 #[.slice o L.length cap, .slice o2 M.length cap2] w fun r w' => r = .returned (.bool true) ∧ Below w.heap.size w w' := by
 have hlm : L.length = M.length := by have := congrArg List.length hv; simpa using this
 refine sameBody_core _ _ w ?_
 rcases h.2 with h0 | ⟨b, f, rfl, hbw, hcl⟩
 ·subst h0
  rw [← hlm]
  exact sameAll_nil o o2 cap cap2 w
 rcases h2.2 with h0 | ⟨b2, f2, rfl, hbw2, hcm⟩
 ·subst h0
  rw [hlm]
  exact sameAll_nil _ o2 cap cap2 w
 rw [← hlm]
 unfold maxLen at hm
 refine sameAll_core b f b2 f2 cap cap2 L.length (by omega) hc (by omega) L M w hbw hbw2 rfl hlm.symm hcl hcm (fun i h1 h3 w' bb => ?_)
 have e : (L[i]).val = (M[i]).val := by
  have q1 : (L.map InsD.val)[i]? = some (L[i]).val := by rw [List.getElem?_map, List.getElem?_eq_getElem h1]; rfl
  have q2 : (M.map InsD.val)[i]? = some (M[i]).val := by rw [List.getElem?_map, List.getElem?_eq_getElem h3]; rfl
  rw [hv, q2] at q1
  exact (Option.some.inj q1).symm
 have ok1 := (h.1 _ (List.getElem_mem h1)).below bb
 have ok2 := (h2.1 _ (List.getElem_mem h3)).below bb
 generalize L[i] = d at e ok1
 generalize M[i] = x at e ok2
 obtain ⟨op, A, B, o1, n1, c1, xs⟩ := d
 obtain ⟨op', A', B', o1', n1', c1', xs'⟩ := x
 simp only [InsD.val, V4.mk.injEq] at e
 obtain ⟨rfl, rfl, rfl, rfl⟩ := e
 have l1 := ok1.lj.1
 have l2 := ok2.lj.1
 simp only at l1 l2
 subst l1
 subst l2
 have m1 := ok1.most
 have m2 := ok2.most
 unfold maxLen at m1 m2
 simp only at m1 m2
 exact same_any op A B o1 o1' xs.length c1 c1' w' (fun w2 b2 => eq_any o1 o1' xs xs.length c1 c1' ok1.cap ok2.cap (by omega) (by omega) w2 (ok1.lj.below b2) (ok2.lj.below b2))
end Go.Proofs.YtkceplamaocmmaaGreatDoor
namespace Go.Proofs.YtkceplamaocmmaaGreatDoor
set_option linter.unusedVariables false
open Go.RowKit
def LettersOk (F : ByteArray) : Prop := ∀ pos (h : pos < F.size), (((F[pos]'h).toNat = 107 ∨ (F[pos]'h).toNat = 97 ∨ (F[pos]'h).toNat = 98 ∨ (F[pos]'h).toNat = 122 ∨ (F[pos]'h).toNat = 99 ∨ (F[pos]'h).toNat = 100 ∨ (F[pos]'h).toNat = 63) ∨ ((F[pos]'h).toNat = 116 ∧ pos = 0))
end Go.Proofs.YtkceplamaocmmaaGreatDoor
namespace Go.Proofs.YtkceplamaocmmaaGreatDoor
set_option linter.unusedVariables false
theorem handed_shaped {H : Type} {enc : TypeId × Value → H} {C : Checked} {os : Os} {f : FuncId} {fn : Func} {s : ChangeSpec} {apart fresh handsOn again : Bool} {X : World → Array Value → Prop}
  (hX : ∀ (w w' : World) (args : Array Value), w.heap = w'.heap → X w args → X w' args)
  (own : ownKnob C.prog.godebug = none) (started : os.Started) (noInit : C.prog.inits.idxOf? f = none) (hfn : C.prog.funcs[f]? = some fn)
  (witness : ∃ (w : World) (tape : Tape) (i : Input), w.os = os ∧ (w.forCall tape i).Shaped C.prog ∧ i.vars = [] ∧ Input.okWide C.prog (w.forCall tape i) .any w.heap.size f i ∧
   ((s.pre enc C.prog fn [] apart (w.forCall tape i).memory i.args ∧ X (w.forCall tape i).memory i.args) ∧ sizedMet enc C.prog fn (OpenSpec.ofChange s) apart (w.forCall tape i).memory i.args) ∧ ({} : Assume).holds C.prog (lone (Frame.enter C.prog f i.args .normal) [] (w.forCall tape i)))
  (contract : ∀ (W : World) (base : Nat) (args : Array Value) (ds gs : List (DataW H)) (before : List MemPlace),
   (∀ (j : Nat) t v, fn.params[j]? = some t → args[j]? = some v → Value.okWide C.prog W .any base t v) →
   DataW.Whole enc C.prog fn.params.toList s.vars apart W args.toList ds gs before →
   (DataW.weightsEach C.prog (fn.params.toList ++ s.plain.varTypes C.prog) (ds ++ gs)).all (· ≤ reachBytes) = true → X W args → W.ShapedOpen C.prog →
   Calls C.prog f args W fun e W' => ∃ v, e = .returned v ∧ s.post enc C.prog fn apart fresh handsOn again W args v W') :
  ReturnsInHanded {} C os f .any (fun w args => (s.pre enc C.prog fn [] apart w args ∧ X w args) ∧ sizedMet enc C.prog fn (OpenSpec.ofChange s) apart w args) (s.post enc C.prog fn apart fresh handsOn again) := by
 refine returnsInHanded_of_calls own started noInit witness fun w tape i _ hsh _ hok hpre _ => ?_
 obtain ⟨_, _, _, g, hg, _, _, _, _, hval⟩ := hok
 obtain rfl : g = fn := Option.some.inj (hg.symm.trans hfn)
 obtain ⟨⟨⟨ds, gs, before, hw, _⟩, hx⟩, hz⟩ := hpre
 refine (contract (w.forCall tape i) w.heap.size i.args ds gs before hval (DataW.Whole.of_heap (w' := w.forCall tape i) (by rfl) hw) (hz.weights hw) (hX _ _ _ (by rfl) hx) hsh).mono ?_
 rintro e W' ⟨v, rfl, hp⟩
 exact ChangeSpec.post_blind hp
end Go.Proofs.YtkceplamaocmmaaGreatDoor
