/-
  What a nesting's step does.
-/
import Derived.Test.YtgdleahhkaolbaaDoorNest1
import Derived.Test.YtgdleahhkaolbaaDoorRRd1
namespace Go.Proofs.YtgdleahhkaolbaaDoor
open Go.RowKit

/-- What a step answers and leaves: c is what Check says. -/
def nStep (c op : Int) (bs : List Int) (en : Bool) : Int × List Int × Bool :=
  if c ≠ 0 then (c, bs, en) else if en = true then (4, bs, en)
  else if op = 2 ∨ op = 3 ∨ op = 4 then (if bs.length = 12 then (7, bs, en) else (0, bs ++ [op], en))
  else if op = 5 then (match bs.getLast? with | some 4 => (0, bs.dropLast ++ [5], en) | _ => (4, bs, en))
  else if op = 11 then (match bs with | [] => (0, [], true) | _ :: _ => (0, bs.dropLast, en))
  else (0, bs, en)
theorem NS.cells {w : World} {B P : Nat} {bs : List Int} {e : Bool} (h : NS w B P bs e) : w.cell? ⟨P, 1, none⟩ = some (.bool e) := by
  obtain ⟨o, cap, h1, _⟩ := h
  exact (ns_cells h1).2.1
set_option maxHeartbeats 2000000 in
set_option maxRecDepth 1000000 in
theorem step_err (P B : Nat) (op A B' : Int) (o : Option Addr) (n cap : Nat) (c : Int) (_hc : (c == 0) = false) (w : World) (hB : B ≤ w.heap.size) (HC : Hid (∀ w', Below w.heap.size w w' → Calls Tryd.prog 16 #[.agg #[.int .u8 op, .int .i64 A, .int .i64 B', .slice o n cap]] w' fun r w'' => r = .returned (.int .i64 c) ∧ Below w'.heap.size w' w'')) :
    Calls Tryd.prog 70 #[.pointer (some ⟨P, 0, none⟩), .agg #[.int .u8 op, .int .i64 A, .int .i64 B', .slice o n cap]] w fun r w' => r = .returned (.int .i64 c) ∧ Below w.heap.size w w' ∧ Below B w w' := by
  have hne : (c != 0) = true := by rw [bne, _hc]; rfl
  go_enter Tryd.func70, Tryd.ntmps70
  go_wp2_with fail
  refine (HC.out _ ((Below.refl _ _).alloc (Nat.le_refl _) _)).mono ?_
  rintro e w1 ⟨rfl, b1⟩
  have b01 : Below w.heap.size w w1 := ((Below.refl _ _).alloc (Nat.le_refl _) _).trans (b1.mono (by simp))
  go_wp2
  go_ret
  exact ⟨rfl, b01, b01.mono hB⟩
set_option maxHeartbeats 2000000 in
set_option maxRecDepth 1000000 in
theorem step_ended (P B : Nat) (bs : List Int) (op A B' : Int) (o : Option Addr) (n cap : Nat) (w : World) (h : NS w B P bs true) (hB : B ≤ w.heap.size) (HC : Hid (∀ w', Below w.heap.size w w' → Calls Tryd.prog 16 #[.agg #[.int .u8 op, .int .i64 A, .int .i64 B', .slice o n cap]] w' fun r w'' => r = .returned (.int .i64 0) ∧ Below w'.heap.size w' w'')) :
    Calls Tryd.prog 70 #[.pointer (some ⟨P, 0, none⟩), .agg #[.int .u8 op, .int .i64 A, .int .i64 B', .slice o n cap]] w fun r w' => r = .returned (.int .i64 4) ∧ Below w.heap.size w w' ∧ Below B w w' := by
  go_enter Tryd.func70, Tryd.ntmps70
  go_wp2_with fail
  refine (HC.out _ ((Below.refl _ _).alloc (Nat.le_refl _) _)).mono ?_
  rintro e w1 ⟨rfl, b1⟩
  have b01 : Below w.heap.size w w1 := ((Below.refl _ _).alloc (Nat.le_refl _) _).trans (b1.mono (by simp))
  have hc1 := (h.under b01).cells
  go_wp2
  go_ret
  exact ⟨rfl, b01, b01.mono hB⟩
set_option maxHeartbeats 2000000 in
set_option maxRecDepth 1000000 in
theorem step_2 (P B : Nat) (bs bs2 : List Int) (en2 : Bool) (r0 : Int) (A B' : Int) (o : Option Addr) (n cap : Nat) (w : World) (h : NS w B P bs false) (hB : B ≤ w.heap.size) (HC : Hid (∀ w', Below w.heap.size w w' → Calls Tryd.prog 16 #[.agg #[.int .u8 2, .int .i64 A, .int .i64 B', .slice o n cap]] w' fun r w'' => r = .returned (.int .i64 0) ∧ Below w'.heap.size w' w''))
    (HE : Hid (∀ w', NS w' B P bs false → B ≤ w'.heap.size → Calls Tryd.prog 100 #[.pointer (some ⟨P, 0, none⟩), .int .u8 2] w' fun r w'' => r = .returned (.int .i64 r0) ∧ NS w'' B P bs2 en2 ∧ Below B w' w'')) :
    Calls Tryd.prog 70 #[.pointer (some ⟨P, 0, none⟩), .agg #[.int .u8 2, .int .i64 A, .int .i64 B', .slice o n cap]] w fun r w' => r = .returned (.int .i64 r0) ∧ NS w' B P bs2 en2 ∧ Below B w w' := by
  go_enter Tryd.func70, Tryd.ntmps70
  go_wp2_with fail
  refine (HC.out _ ((Below.refl _ _).alloc (Nat.le_refl _) _)).mono ?_
  rintro e w1 ⟨rfl, b1⟩
  have b01 : Below w.heap.size w w1 := ((Below.refl _ _).alloc (Nat.le_refl _) _).trans (b1.mono (by simp))
  have HN1 : Hid (NS w1 B P bs false) := h.under b01
  have hc1 := HN1.out.cells
  have xX : XS w1 w.heap.size (.int .u8 2) (.int .i64 A) (.int .i64 B') (.slice o n cap) := by
    unfold XS
    rw [b1.block w.heap.size (by simp)]
    exact new_block _ _
  obtain ⟨x0, x1, x2, x3⟩ := xX.cell
  have hB1 : B ≤ w1.heap.size := Nat.le_trans hB b01.size
  have HB1 : Hid (Below B w w1) := b01.mono hB
  clear xX b1 b01 h
  go_wp2_with fail
  refine (HE.out _ HN1.out hB1).mono ?_
  rintro e w2 ⟨rfl, n2, b2⟩
  go_wp2
  go_ret
  exact ⟨rfl, n2, HB1.out.trans b2⟩
set_option maxHeartbeats 2000000 in
set_option maxRecDepth 1000000 in
theorem step_3 (P B : Nat) (bs bs2 : List Int) (en2 : Bool) (r0 : Int) (A B' : Int) (o : Option Addr) (n cap : Nat) (w : World) (h : NS w B P bs false) (hB : B ≤ w.heap.size) (HC : Hid (∀ w', Below w.heap.size w w' → Calls Tryd.prog 16 #[.agg #[.int .u8 3, .int .i64 A, .int .i64 B', .slice o n cap]] w' fun r w'' => r = .returned (.int .i64 0) ∧ Below w'.heap.size w' w''))
    (HE : Hid (∀ w', NS w' B P bs false → B ≤ w'.heap.size → Calls Tryd.prog 100 #[.pointer (some ⟨P, 0, none⟩), .int .u8 3] w' fun r w'' => r = .returned (.int .i64 r0) ∧ NS w'' B P bs2 en2 ∧ Below B w' w'')) :
    Calls Tryd.prog 70 #[.pointer (some ⟨P, 0, none⟩), .agg #[.int .u8 3, .int .i64 A, .int .i64 B', .slice o n cap]] w fun r w' => r = .returned (.int .i64 r0) ∧ NS w' B P bs2 en2 ∧ Below B w w' := by
  go_enter Tryd.func70, Tryd.ntmps70
  go_wp2_with fail
  refine (HC.out _ ((Below.refl _ _).alloc (Nat.le_refl _) _)).mono ?_
  rintro e w1 ⟨rfl, b1⟩
  have b01 : Below w.heap.size w w1 := ((Below.refl _ _).alloc (Nat.le_refl _) _).trans (b1.mono (by simp))
  have HN1 : Hid (NS w1 B P bs false) := h.under b01
  have hc1 := HN1.out.cells
  have xX : XS w1 w.heap.size (.int .u8 3) (.int .i64 A) (.int .i64 B') (.slice o n cap) := by
    unfold XS
    rw [b1.block w.heap.size (by simp)]
    exact new_block _ _
  obtain ⟨x0, x1, x2, x3⟩ := xX.cell
  have hB1 : B ≤ w1.heap.size := Nat.le_trans hB b01.size
  have HB1 : Hid (Below B w w1) := b01.mono hB
  clear xX b1 b01 h
  go_wp2_with fail
  refine (HE.out _ HN1.out hB1).mono ?_
  rintro e w2 ⟨rfl, n2, b2⟩
  go_wp2
  go_ret
  exact ⟨rfl, n2, HB1.out.trans b2⟩
set_option maxHeartbeats 2000000 in
set_option maxRecDepth 1000000 in
theorem step_4 (P B : Nat) (bs bs2 : List Int) (en2 : Bool) (r0 : Int) (A B' : Int) (o : Option Addr) (n cap : Nat) (w : World) (h : NS w B P bs false) (hB : B ≤ w.heap.size) (HC : Hid (∀ w', Below w.heap.size w w' → Calls Tryd.prog 16 #[.agg #[.int .u8 4, .int .i64 A, .int .i64 B', .slice o n cap]] w' fun r w'' => r = .returned (.int .i64 0) ∧ Below w'.heap.size w' w''))
    (HE : Hid (∀ w', NS w' B P bs false → B ≤ w'.heap.size → Calls Tryd.prog 100 #[.pointer (some ⟨P, 0, none⟩), .int .u8 4] w' fun r w'' => r = .returned (.int .i64 r0) ∧ NS w'' B P bs2 en2 ∧ Below B w' w'')) :
    Calls Tryd.prog 70 #[.pointer (some ⟨P, 0, none⟩), .agg #[.int .u8 4, .int .i64 A, .int .i64 B', .slice o n cap]] w fun r w' => r = .returned (.int .i64 r0) ∧ NS w' B P bs2 en2 ∧ Below B w w' := by
  go_enter Tryd.func70, Tryd.ntmps70
  go_wp2_with fail
  refine (HC.out _ ((Below.refl _ _).alloc (Nat.le_refl _) _)).mono ?_
  rintro e w1 ⟨rfl, b1⟩
  have b01 : Below w.heap.size w w1 := ((Below.refl _ _).alloc (Nat.le_refl _) _).trans (b1.mono (by simp))
  have HN1 : Hid (NS w1 B P bs false) := h.under b01
  have hc1 := HN1.out.cells
  have xX : XS w1 w.heap.size (.int .u8 4) (.int .i64 A) (.int .i64 B') (.slice o n cap) := by
    unfold XS
    rw [b1.block w.heap.size (by simp)]
    exact new_block _ _
  obtain ⟨x0, x1, x2, x3⟩ := xX.cell
  have hB1 : B ≤ w1.heap.size := Nat.le_trans hB b01.size
  have HB1 : Hid (Below B w w1) := b01.mono hB
  clear xX b1 b01 h
  go_wp2_with fail
  refine (HE.out _ HN1.out hB1).mono ?_
  rintro e w2 ⟨rfl, n2, b2⟩
  go_wp2
  go_ret
  exact ⟨rfl, n2, HB1.out.trans b2⟩
set_option maxHeartbeats 2000000 in
set_option maxRecDepth 1000000 in
theorem step_5 (P B : Nat) (bs bs2 : List Int) (en2 : Bool) (r0 : Int) (A B' : Int) (o : Option Addr) (n cap : Nat) (w : World) (h : NS w B P bs false) (hB : B ≤ w.heap.size) (HC : Hid (∀ w', Below w.heap.size w w' → Calls Tryd.prog 16 #[.agg #[.int .u8 5, .int .i64 A, .int .i64 B', .slice o n cap]] w' fun r w'' => r = .returned (.int .i64 0) ∧ Below w'.heap.size w' w''))
    (HE : Hid (∀ w', NS w' B P bs false → Calls Tryd.prog 101 #[.pointer (some ⟨P, 0, none⟩)] w' fun r w'' => r = .returned (.int .i64 r0) ∧ NS w'' B P bs2 en2 ∧ Below B w' w'')) :
    Calls Tryd.prog 70 #[.pointer (some ⟨P, 0, none⟩), .agg #[.int .u8 5, .int .i64 A, .int .i64 B', .slice o n cap]] w fun r w' => r = .returned (.int .i64 r0) ∧ NS w' B P bs2 en2 ∧ Below B w w' := by
  go_enter Tryd.func70, Tryd.ntmps70
  go_wp2_with fail
  refine (HC.out _ ((Below.refl _ _).alloc (Nat.le_refl _) _)).mono ?_
  rintro e w1 ⟨rfl, b1⟩
  have b01 : Below w.heap.size w w1 := ((Below.refl _ _).alloc (Nat.le_refl _) _).trans (b1.mono (by simp))
  have HN1 : Hid (NS w1 B P bs false) := h.under b01
  have hc1 := HN1.out.cells
  have xX : XS w1 w.heap.size (.int .u8 5) (.int .i64 A) (.int .i64 B') (.slice o n cap) := by
    unfold XS
    rw [b1.block w.heap.size (by simp)]
    exact new_block _ _
  obtain ⟨x0, x1, x2, x3⟩ := xX.cell
  have hB1 : B ≤ w1.heap.size := Nat.le_trans hB b01.size
  have HB1 : Hid (Below B w w1) := b01.mono hB
  clear xX b1 b01 h
  go_wp2_with fail
  refine (HE.out _ HN1.out).mono ?_
  rintro e w2 ⟨rfl, n2, b2⟩
  go_wp2
  go_ret
  exact ⟨rfl, n2, HB1.out.trans b2⟩
set_option maxHeartbeats 2000000 in
set_option maxRecDepth 1000000 in
theorem step_11 (P B : Nat) (bs bs2 : List Int) (en2 : Bool) (A B' : Int) (o : Option Addr) (n cap : Nat) (w : World) (h : NS w B P bs false) (hB : B ≤ w.heap.size) (HC : Hid (∀ w', Below w.heap.size w w' → Calls Tryd.prog 16 #[.agg #[.int .u8 11, .int .i64 A, .int .i64 B', .slice o n cap]] w' fun r w'' => r = .returned (.int .i64 0) ∧ Below w'.heap.size w' w''))
    (HE : Hid (∀ w', NS w' B P bs false → Calls Tryd.prog 102 #[.pointer (some ⟨P, 0, none⟩)] w' fun r w'' => r = .returned (.tuple #[]) ∧ NS w'' B P bs2 en2 ∧ Below B w' w'')) :
    Calls Tryd.prog 70 #[.pointer (some ⟨P, 0, none⟩), .agg #[.int .u8 11, .int .i64 A, .int .i64 B', .slice o n cap]] w fun r w' => r = .returned (.int .i64 0) ∧ NS w' B P bs2 en2 ∧ Below B w w' := by
  go_enter Tryd.func70, Tryd.ntmps70
  go_wp2_with fail
  refine (HC.out _ ((Below.refl _ _).alloc (Nat.le_refl _) _)).mono ?_
  rintro e w1 ⟨rfl, b1⟩
  have b01 : Below w.heap.size w w1 := ((Below.refl _ _).alloc (Nat.le_refl _) _).trans (b1.mono (by simp))
  have HN1 : Hid (NS w1 B P bs false) := h.under b01
  have hc1 := HN1.out.cells
  have xX : XS w1 w.heap.size (.int .u8 11) (.int .i64 A) (.int .i64 B') (.slice o n cap) := by
    unfold XS
    rw [b1.block w.heap.size (by simp)]
    exact new_block _ _
  obtain ⟨x0, x1, x2, x3⟩ := xX.cell
  have hB1 : B ≤ w1.heap.size := Nat.le_trans hB b01.size
  have HB1 : Hid (Below B w w1) := b01.mono hB
  clear xX b1 b01 h
  go_wp2_with fail
  refine (HE.out _ HN1.out).mono ?_
  rintro e w2 ⟨rfl, n2, b2⟩
  go_wp2
  go_ret
  exact ⟨rfl, n2, HB1.out.trans b2⟩
set_option maxHeartbeats 2000000 in
set_option maxRecDepth 1000000 in
theorem step_plain (P B : Nat) (bs : List Int) (op A B' : Int) (o : Option Addr) (n cap : Nat) (_q2 : (op == 2) = false) (_q3 : (op == 3) = false) (_q4 : (op == 4) = false) (_q5 : (op == 5) = false) (_q11 : (op == 11) = false) (w : World) (h : NS w B P bs false) (hB : B ≤ w.heap.size) (HC : Hid (∀ w', Below w.heap.size w w' → Calls Tryd.prog 16 #[.agg #[.int .u8 op, .int .i64 A, .int .i64 B', .slice o n cap]] w' fun r w'' => r = .returned (.int .i64 0) ∧ Below w'.heap.size w' w'')) :
    Calls Tryd.prog 70 #[.pointer (some ⟨P, 0, none⟩), .agg #[.int .u8 op, .int .i64 A, .int .i64 B', .slice o n cap]] w fun r w' => r = .returned (.int .i64 0) ∧ NS w' B P bs false ∧ Below B w w' := by
  go_enter Tryd.func70, Tryd.ntmps70
  go_wp2_with fail
  refine (HC.out _ ((Below.refl _ _).alloc (Nat.le_refl _) _)).mono ?_
  rintro e w1 ⟨rfl, b1⟩
  have b01 : Below w.heap.size w w1 := ((Below.refl _ _).alloc (Nat.le_refl _) _).trans (b1.mono (by simp))
  have HN1 : Hid (NS w1 B P bs false) := h.under b01
  have hc1 := HN1.out.cells
  have xX : XS w1 w.heap.size (.int .u8 op) (.int .i64 A) (.int .i64 B') (.slice o n cap) := by
    unfold XS
    rw [b1.block w.heap.size (by simp)]
    exact new_block _ _
  obtain ⟨x0, x1, x2, x3⟩ := xX.cell
  have hB1 : B ≤ w1.heap.size := Nat.le_trans hB b01.size
  have HB1 : Hid (Below B w w1) := b01.mono hB
  clear xX b1 b01 h
  go_wp2
  go_ret
  exact ⟨rfl, HN1.out, HB1.out⟩
theorem step_any (P B : Nat) (bs : List Int) (en : Bool) (op A B' c : Int) (o : Option Addr) (n cap : Nat) (w : World) (h : NS w B P bs en) (hl : bs.length ≤ 12) (hB : B ≤ w.heap.size) (HC : ∀ w', Below w.heap.size w w' → Calls Tryd.prog 16 #[.agg #[.int .u8 op, .int .i64 A, .int .i64 B', .slice o n cap]] w' fun r w'' => r = .returned (.int .i64 c) ∧ Below w'.heap.size w' w'') :
    Calls Tryd.prog 70 #[.pointer (some ⟨P, 0, none⟩), .agg #[.int .u8 op, .int .i64 A, .int .i64 B', .slice o n cap]] w fun r w' => r = .returned (.int .i64 (nStep c op bs en).1) ∧ NS w' B P (nStep c op bs en).2.1 (nStep c op bs en).2.2 ∧ Below B w w' := by
  unfold nStep
  by_cases hc : c = 0
  · subst hc
    rw [if_neg (by simp)]
    cases en with
    | true =>
      rw [if_pos rfl]
      refine (step_ended P B bs op A B' o n cap w h hB HC).mono ?_
      rintro r w1 ⟨rfl, b1, b2⟩
      exact ⟨rfl, h.under b1, b2⟩
    | false =>
      rw [if_neg (by simp)]
      have hent : ∀ (k : Int) w', NS w' B P bs false → B ≤ w'.heap.size → Calls Tryd.prog 100 #[.pointer (some ⟨P, 0, none⟩), .int .u8 k] w' fun r w'' => r = .returned (.int .i64 (if bs.length = 12 then ((7 : Int), bs, false) else (0, bs ++ [k], false)).1) ∧ NS w'' B P (if bs.length = 12 then ((7 : Int), bs, false) else (0, bs ++ [k], false)).2.1 (if bs.length = 12 then ((7 : Int), bs, false) else (0, bs ++ [k], false)).2.2 ∧ Below B w' w'' := by
        intro k w' hn hb
        by_cases h12 : bs.length = 12
        · rw [if_pos h12]
          refine (enter_full P B bs false k w' hn h12).mono ?_
          rintro r w1 ⟨rfl, rfl⟩
          exact ⟨rfl, hn, Below.refl _ _⟩
        · rw [if_neg h12]
          exact enter_ok P B bs false k w' hn (by omega) hb
      by_cases h2 : op = 2
      · subst h2
        rw [if_pos (Or.inl rfl)]
        exact step_2 P B bs _ _ _ A B' o n cap w h hB HC (hent 2)
      by_cases h3 : op = 3
      · subst h3
        rw [if_pos (Or.inr (Or.inl rfl))]
        exact step_3 P B bs _ _ _ A B' o n cap w h hB HC (hent 3)
      by_cases h4 : op = 4
      · subst h4
        rw [if_pos (Or.inr (Or.inr rfl))]
        exact step_4 P B bs _ _ _ A B' o n cap w h hB HC (hent 4)
      rw [if_neg (by omega)]
      by_cases h5 : op = 5
      · subst h5
        rw [if_pos rfl]
        refine step_5 P B bs _ _ _ A B' o n cap w h hB HC fun w' hn => ?_
        rcases List.eq_nil_or_concat bs with rfl | ⟨ini, x, rfl⟩
        · refine (turn_nil P B false w' hn).mono ?_
          rintro r w1 ⟨rfl, rfl⟩
          exact ⟨rfl, hn, Below.refl _ _⟩
        · have hli : ini.length < 1000 := by simp at hl; omega
          rw [List.concat_eq_append] at hn ⊢
          have e : (ini ++ [x]).getLast? = some x := by simp
          rw [e, List.dropLast_concat]
          by_cases hx : x = 4
          · subst hx
            exact turn_ok P B ini hli false w' hn
          · have : (match some x with | some 4 => ((0 : Int), ini ++ [5], false) | _ => (4, ini ++ [x], false)) = (4, ini ++ [x], false) := by
              split
              · rename_i heq
                simp only [Option.some.injEq] at heq
                exact absurd heq hx
              · rfl
            rw [this]
            refine (turn_bad P B ini x hx hli false w' hn).mono ?_
            rintro r w1 ⟨rfl, rfl⟩
            exact ⟨rfl, hn, Below.refl _ _⟩
      rw [if_neg h5]
      by_cases h11 : op = 11
      · subst h11
        rw [if_pos rfl]
        rcases List.eq_nil_or_concat bs with rfl | ⟨ini, x, rfl⟩
        · exact step_11 P B [] [] true A B' o n cap w h hB HC fun w' hn => leave_nil P B false w' hn
        · have hli : ini.length < 1000 := by simp at hl; omega
          rw [List.concat_eq_append] at h ⊢
          have : (match ini ++ [x] with | [] => ((0 : Int), [], true) | _ :: _ => (0, (ini ++ [x]).dropLast, false)) = (0, ini, false) := by
            rw [List.dropLast_concat]
            cases ini <;> rfl
          rw [this]
          exact step_11 P B (ini ++ [x]) ini false A B' o n cap w h hB HC fun w' hn => leave_ok P B ini x hli false w' hn
      rw [if_neg h11]
      have ne : ∀ k : Int, op ≠ k → (op == k) = false := fun k hk => by rw [beq_eq_false_iff_ne]; exact hk
      exact step_plain P B bs op A B' o n cap (ne 2 h2) (ne 3 h3) (ne 4 h4) (ne 5 h5) (ne 11 h11) w h hB HC
  · rw [if_pos hc]
    refine (step_err P B op A B' o n cap c (by rw [beq_eq_false_iff_ne]; exact hc) w hB HC).mono ?_
    rintro r w1 ⟨rfl, b1, b2⟩
    exact ⟨rfl, h.under b1, b2⟩

end Go.Proofs.YtgdleahhkaolbaaDoor
