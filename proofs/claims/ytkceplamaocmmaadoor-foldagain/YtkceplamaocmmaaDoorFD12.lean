/-
  Folding: the program's own copy of an instruction.
-/
import Derived.Test.YtkceplamaocmmaaDoorFD11
import Derived.Test.YtkceplamaocmmaaDoorNTree1
import Derived.WalkSpells
import Derived.Lib.SliceRun
import Derived.Laws.MakeOwn
import Derived.Laws.OwnMore
namespace Go.Proofs.YtkceplamaocmmaaDoor
open Go.RowKit
set_option linter.unusedVariables false

theorem eql_someN (a : Addr) (n c : Nat) (w : World) : (binOp .eql 28 (.slice (some a) n c) (.slice none 0 0)).run Tryd.prog w = .ok (.bool false) w := by
  simp only [binOp]
  simp [Op.equal, Op.maxDepth, Lib.run_equalIn_slice_nil w 9999 28 2 (some a) n c 0 0 Tryd.underlying28]
set_option maxHeartbeats 4000000 in
set_option maxRecDepth 1000000 in
theorem fclone (o : Option Addr) (n cap : Nat) (xs : List Int) (w : World) (h : LJ w o n xs) (hnil : o = none → cap = 0) (hcap : n ≤ cap) (hn : n ≤ 1000) :
    Calls Tryd.prog 24 #[.slice o n cap] w fun r w' => ∃ (o' : Option Addr) (cap' : Nat), r = .returned (.slice o' n cap') ∧ w'.ownsRow w.heap.size 2 1 (.slice o' n cap') n (xs.map (Value.int .i64)) ∧ Below w.heap.size w w' := by
  obtain ⟨hlen, hat⟩ := h
  cases o with
  | none =>
    have hc0 : cap = 0 := hnil rfl
    obtain rfl : n = 0 := by omega
    obtain rfl : xs = [] := List.length_eq_zero_iff.1 hlen
    subst hc0
    clear hat hlen hnil
    have hE := run_eql_nil_slice (P := Tryd.prog) w 28 2 none 0 0 0 0 Tryd.underlying28
    go_enter Tryd.func24, Tryd.ntmps24
    go_wp2
    go_ret
    exact ⟨none, 0, rfl, World.ownsRow_nil _ _ _ _, Below.refl _ _⟩
  | some a =>
    obtain ⟨i0, hi, hz0, hz1, hz2⟩ := info_parts Tryd.infoI64
    have hE := eql_someN a n cap w
    have hb : Below w.heap.size w (w.alloc (.cells #[] 2)) := (Below.refl _ _).alloc (Nat.le_refl _) _
    have HOW : Hid (World.ownsRow (w.alloc (.cells #[] 2)) w.heap.size 2 1 (.slice (some ⟨w.heap.size, 0, none⟩) 0 0) 0 []) := World.ownsRow_lit w #[] 0 (Nat.le_refl _) (by unfold maxLen; omega) rfl
    have HB : Hid (type_of% hb) := hb
    by_cases h0 : n = 0
    · subst h0
      obtain rfl : xs = [] := List.length_eq_zero_iff.1 hlen
      clear hat hlen hb hnil
      go_enter Tryd.func24, Tryd.ntmps24
      go_wp2_with (at_builtin; refine fappend_nil rfl _ _ 28 rfl 2 i0 Tryd.underlying28 hi _ _ _ rfl (by omega) (some a) cap rfl ?_)
      go_ret
      exact ⟨some ⟨w.heap.size, 0, none⟩, 0, rfl, HOW.out, HB.out⟩
    · obtain ⟨a', e, hab, hac⟩ := hat.resolve_left h0
      obtain rfl : a = a' := Option.some.inj e
      have HN : Hid (∀ j u, (xs.map (Value.int .i64))[j]? = some u → (w.alloc (.cells #[] 2)).cell? (a.add j) = some u) := fun j u hu => by
        rw [List.getElem?_map] at hu
        obtain ⟨x, hx, rfl⟩ := Option.map_eq_some_iff.1 hu
        have hj : j < n := by rw [← hlen]; exact (List.getElem?_eq_some_iff.1 hx).1
        rw [hb.cell (p := a.add j) (by rw [add_block]; exact hab), hac j hj, List.getD_eq_getElem?_getD, hx]
        rfl
      have HL : Hid (xs.length = n) := hlen
      have hn0 : 0 < n := by omega
      clear hat hlen hb hab hac e hnil
      go_enter Tryd.func24, Tryd.ntmps24
      go_wp2_with (at_builtin; refine wpList_append_lies _ rfl _ _ 28 rfl w.heap.size 2 i0 (.int .i64 0) 1 8 Tryd.underlying28 hi hz0 hz1 hz2 rfl (by decide) _ 0 [] rfl HOW.out a n cap (xs.map (Value.int .i64)) rfl ?hl HN.out ?one hn0 ?a3 ?a4 ?base (w.heap.size + 1) ?sz ?_)
      case hl => rw [List.length_map, HL.out, Nat.mul_one]
      case one => (intro u hu; obtain ⟨x, _, rfl⟩ := List.mem_map.1 hu; rfl)
      case a3 => (unfold maxLen; omega)
      case a4 => omega
      case base => simp
      case sz => simp
      intro g c w2 hown hgrow hat hlt
      have hb2 : Below w.heap.size w w2 := HB.out.grown hgrow (by simp) (fun j hj => (HOW.out.lt j hj).1)
      have HB2 : Hid (type_of% hb2) := hb2
      have HO : Hid (w2.ownsRow w.heap.size 2 1 (.slice (some ⟨g, 0, none⟩) n c) n (xs.map (Value.int .i64))) := hown
      clear hown hgrow hat hlt hb2 HN HOW HB
      go_wp2
      go_ret
      exact ⟨some ⟨g, 0, none⟩, c, rfl, HO.out, HB2.out⟩
set_option maxHeartbeats 4000000 in
set_option maxRecDepth 1000000 in
theorem fcloneIns (d : InsD) (hn : d.n ≤ 1000) (w : World) (h : d.ok w) :
    Calls Tryd.prog 16 #[.agg #[.int .u8 d.op, .int .i64 d.A, .int .i64 d.B, .slice d.o d.n d.cap]] w fun r w' => ∃ d' : InsD, r = .returned (.agg #[.int .u8 d'.op, .int .i64 d'.A, .int .i64 d'.B, .slice d'.o d'.n d'.cap]) ∧ d'.val = d.val ∧ d'.n = d.n ∧ OkT w' d' ∧ Below w.heap.size w w' := by
  obtain ⟨op, A, B, o, n, cap, xs⟩ := d
  have h0 := h.op0
  have h1 := h.op1
  have ha := h.a
  have hl := h.lj
  have hx := h.nil
  have hc := h.cap
  clear h
  simp only at hn h0 h1 ha hl hx hc
  have HR : Hid (∀ (o' : Option Addr) (cap' : Nat) (w' : World), w'.ownsRow w.heap.size 2 1 (.slice o' n cap') n (xs.map (Value.int .i64)) → OkT w' ⟨op, A, B, o', n, cap', xs⟩) := fun o' cap' w' ho => ownI ho h0 h1 ha
  have xX : XS ((w.alloc (.cells #[.int .u8 op, .int .i64 A, .int .i64 B, .slice o n cap] 30)).alloc (.cells #[.int .u8 0, .int .i64 0, .int .i64 0, .slice none 0 0] 30)) w.heap.size (.int .u8 op) (.int .i64 A) (.int .i64 B) (.slice o n cap) := by
    unfold XS
    rw [Below.heap_alloc _ _ _ (by simp)]
    exact new_block _ _
  have xR : XS ((w.alloc (.cells #[.int .u8 op, .int .i64 A, .int .i64 B, .slice o n cap] 30)).alloc (.cells #[.int .u8 0, .int .i64 0, .int .i64 0, .slice none 0 0] 30)) (w.heap.size + 1) (.int .u8 0) (.int .i64 0) (.int .i64 0) (.slice none 0 0) := by
    have := new_block (w.alloc (.cells #[.int .u8 op, .int .i64 A, .int .i64 B, .slice o n cap] 30)) (.cells #[.int .u8 0, .int .i64 0, .int .i64 0, .slice none 0 0] 30)
    rw [World.size_alloc] at this
    exact this
  have hb2 : Below w.heap.size w ((w.alloc (.cells #[.int .u8 op, .int .i64 A, .int .i64 B, .slice o n cap] 30)).alloc (.cells #[.int .u8 0, .int .i64 0, .int .i64 0, .slice none 0 0] 30)) := ((Below.refl _ _).alloc (Nat.le_refl _) _).alloc (by simp) _
  have hsz2 : ((w.alloc (.cells #[.int .u8 op, .int .i64 A, .int .i64 B, .slice o n cap] 30)).alloc (.cells #[.int .u8 0, .int .i64 0, .int .i64 0, .slice none 0 0] 30)).heap.size = w.heap.size + 2 := by simp
  have hcl := fclone o n cap xs _ (hl.below hb2) hx hc hn
  have HB0 : Hid (type_of% hb2) := hb2
  have HCL : Hid (type_of% hcl) := hcl
  have HSZ : Hid (type_of% hsz2) := hsz2
  have HXX : Hid (type_of% xX) := xX
  have HXR : Hid (type_of% xR) := xR
  clear hl hb2 hcl hsz2 xX xR hx h0 h1 ha
  go_enter Tryd.func16, Tryd.ntmps16
  go_wp2_with fail
  refine HCL.out.mono ?_
  rintro r w1 ⟨o', cap', rfl, hown, hb1⟩
  rw [HSZ.out] at hown
  have HB : Hid (Below w.heap.size w w1) := HB0.out.trans (hb1.mono (by rw [HSZ.out]; omega))
  have xX := HXX.out.under hb1
  have xR := HXR.out.under hb1
  have hfar : ∀ P, P < w.heap.size + 2 → (Value.slice o' n cap').ownBlock ≠ some P := fun P hP e => by
    have := (hown.lt P e).1
    omega
  have HOW : Hid (World.ownsRow _ w.heap.size 2 1 (.slice o' n cap') n (xs.map (Value.int .i64))) := ownsRow_down (own_put (own_put (own_put (own_put (own_put hown w.heap.size 3 (.slice o' n cap') (hfar _ (by omega))) (w.heap.size + 1) 0 (.int .u8 op) (hfar _ (by omega))) (w.heap.size + 1) 1 (.int .i64 A) (hfar _ (by omega))) (w.heap.size + 1) 2 (.int .i64 B) (hfar _ (by omega))) (w.heap.size + 1) 3 (.slice o' n cap') (hfar _ (by omega))) (by omega)
  clear hown hb1 hfar HB0 HXX HXR HCL
  obtain ⟨x0, x1, x2, x3⟩ := xX.cell
  have fX := xX.frozen 3
  obtain ⟨y0, y1, y2, y3⟩ := xR.cell
  have f0 := xR.frozen 0
  have f1 := xR.frozen 1
  have f2 := xR.frozen 2
  have f3 := xR.frozen 3
  have HFX : Hid (XS _ (w.heap.size + 1) _ _ _ _) := ((((xR.far w.heap.size 3 (.slice o' n cap') (by omega)).set0 (.int .u8 op)).set1 (.int .i64 A)).set2 (.int .i64 B)).set3 (.slice o' n cap')
  have HBX : Hid (Below w.heap.size w _) := ((((HB.out.setCell (p := ⟨w.heap.size, 3, none⟩) (Nat.le_refl _) (.slice o' n cap')).setCell (p := ⟨w.heap.size + 1, 0, none⟩) (by simp) (.int .u8 op)).setCell (p := ⟨w.heap.size + 1, 1, none⟩) (by simp) (.int .i64 A)).setCell (p := ⟨w.heap.size + 1, 2, none⟩) (by simp) (.int .i64 B)).setCell (p := ⟨w.heap.size + 1, 3, none⟩) (by simp) (.slice o' n cap')
  clear xX xR HB
  go_wp2
  obtain ⟨q0, q1, q2, q3⟩ := XS.cell HFX.out
  refine bodyPost_ret (v := .agg #[(.int .u8 op), (.int .i64 A), (.int .i64 B), (.slice o' n cap')]) (by simp [results, Tryd.results16, go_sem, q0, q1, q2, q3]) rfl ?_
  exact ⟨⟨op, A, B, o', n, cap', xs⟩, rfl, rfl, rfl, HR.out o' cap' _ HOW.out, HBX.out⟩
end Go.Proofs.YtkceplamaocmmaaDoor
