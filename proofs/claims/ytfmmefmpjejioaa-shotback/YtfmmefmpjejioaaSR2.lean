/-
  The reader of texts: lists of whatever parts.
-/
import Derived.Test.YtfmmefmpjejioaaSR1
import Derived.Deep.AppendLies
namespace Go.Proofs.Ytfmmefmpjejioaa
open Go.RowKit

/-- Kept where neither the reader nor rows of type T turn. -/
def farK (T : TypeId) (t : TypeId) : Bool := t != T && t != 41
theorem Kp.readerK {w w' : World} {P : Nat} {l : List Int} {a : Int} (h : RK w P l a) (c : Chg P w w') (S : TypeId → Bool) (hS : S 41 = false) : Kp S w w' := by
  obtain ⟨s, _, _, h⟩ := h
  exact Kp.chg h c S hS
theorem RK.kp {w w' : World} {P : Nat} {l : List Int} {a : Int} {S : TypeId → Bool} (h : RK w P l a) (q : Kp S w w') (hS : S 41 = true) : RK w' P l a := by
  obtain ⟨s, h1, h2, h⟩ := h
  refine ⟨s, h1, h2, ?_⟩
  unfold RR at h ⊢
  rw [q.blk _ _ _ _ h hS]
  exact h
theorem Chg.grownK {w w1 w2 : World} {P B n k cap : Nat} {o : Option Addr} {T : TypeId} {xs : List Value} (c : Chg P w w1) (h : w1.ownsRow B T k (.slice o n cap) n xs) (g : w1.grownBy w2 (Value.slice o n cap).ownBlock) (hB : w.heap.size ≤ B) : Chg P w w2 :=
  ⟨g.os.trans c.os, g.tape.trans c.tape, g.output.trans c.output, Nat.le_trans c.size g.size, fun j hj hP => by
    rw [g.block j (Nat.lt_of_lt_of_le hj c.size) (fun e => by
      rcases h.2 with ⟨h1, _⟩ | ⟨b, cc, cu, h1, h2, _⟩
      · rw [h1] at e
        simp [Value.ownBlock] at e
      · rw [h1] at e
        simp only [Value.ownBlock, Option.some.injEq] at e
        omega)]
    exact c.block j hj hP⟩
/-- A call that is under way: its function, its place, its locals and its stack. -/
structure CalD where
  f : Int
  a : Int
  l : NumD
  s : NumD
def CalD.cells (d : CalD) : List Value := [.int .i64 d.f, .int .i64 d.a, .slice d.l.o d.l.n d.l.cap, .slice d.s.o d.s.n d.s.cap]
def CalD.val (d : CalD) : CalV := (d.f, d.a, d.l.xs, d.s.xs)
def inJ (n : Int) : Prop := -9223372036854775808 ≤ n ∧ n ≤ 9223372036854775807
def CalG (w : World) (d : CalD) : Prop := inJ d.f ∧ inJ d.a ∧ NumG .i64 2 w d.l ∧ NumG .i64 2 w d.s
theorem CalG.kp {w w' : World} {d : CalD} {S : TypeId → Bool} (h : CalG w d) (q : Kp S w w') (hS : S 2 = true) : CalG w' d := ⟨h.1, h.2.1, h.2.2.1.kp q hS, h.2.2.2.kp q hS⟩

theorem Try.infoKint : (Try.prog.info? 3).map (fun i => (i.zero, i.size, i.bytes)) = some (some (.int .i64 0), 1, 8) := by kernel_rfl
set_option maxHeartbeats 4000000 in
set_option maxRecDepth 1000000 in
theorem rlist_int (P : Nat) (most : Int) (hmost0 : 0 ≤ most) (hmost : most ≤ 200) (p : Rd Int) (w : World) (l : List Int) (a : Int) (h : RK w P l a)
    (HONE : Hid (∀ l a w', w.heap.size ≤ w'.heap.size → RK w' P l a → Calls Try.prog 32 #[.pointer (some ⟨P, 0, none⟩)] w' fun r w'' => ∃ (d : Int) (v : Value) (l' : List Int) (a' : Int), r = .returned v ∧ v = .int .i64 d ∧ (fun (_ : World) (x : Int) => (Lit.int .i64 x).wf = true) w'' d ∧ RK w'' P l' a' ∧ Outc p l a ((fun x : Int => x) d) l' a' ∧ Chg P w' w'')) :
    Calls Try.prog 31 #[.pointer (some ⟨P, 0, none⟩), .int .i64 most, .func (.func 32) #[.pointer (some ⟨P, 0, none⟩)] #[]] w fun r w' => ∃ (o : Option Addr) (cap : Nat) (L : List Int) (l' : List Int) (a' : Int), r = .returned (.slice o L.length cap) ∧ LR w' w.heap.size 3 1 (fun x : Int => [Value.int .i64 x]) (fun (_ : World) (x : Int) => (Lit.int .i64 x).wf = true) o L.length cap L ∧ RK w' P l' a' ∧ Outc (rList most p) l a (L.map (fun x : Int => x)) l' a' ∧ Chg P w w' ∧ (L.length : Int) ≤ most := by
  obtain ⟨i0, hi, hz0, hz1, hz2⟩ := info_parts Try.infoKint
  have HC : Hid (type_of% (rcount_any P most l a w h)) := rcount_any P most l a w h
  have HOC : Hid (type_of% (out_count most hmost0 l a h.byte)) := out_count most hmost0 l a h.byte
  generalize mCnt most l a = z at HC HOC
  obtain ⟨x, l1, a1⟩ := z
  dsimp only at HC HOC
  clear h
  go_enter Try.func31, Try.ntmps31
  go_wp2_with fail
  refine HC.out.mono ?_
  clear HC
  rintro r w1 ⟨rfl, hb1, c⟩
  obtain ⟨hoc, hx0, hx1, _⟩ := HOC.out
  obtain ⟨m, rfl⟩ : ∃ m : Nat, x = (m : Int) := ⟨x.toNat, by omega⟩
  have hm : m ≤ 200 := by omega
  have HB1 : Hid (RK w1 P l1 a1) := hb1
  have HC1 : Hid (Chg P w w1) := c
  have HCO : Hid (Outc (rCount most) l a (m : Int) l1 a1 ∧ (m : Int) ≤ most) := ⟨hoc, hx1⟩
  have hs1 := c.size
  clear hb1 c hoc hx0 hx1 HOC
  go_wp2
  go_loopw [7, 11] (fun ls iv wr => ∃ i cap : Nat, ∃ o : Option Addr, ∃ L : List Int, ∃ li : List Int, ∃ ai : Int, ls = .slice o i cap ∧ iv = .int .i64 (i : Int) ∧ i ≤ m ∧ Hid (LR wr w.heap.size 3 1 (fun x : Int => [Value.int .i64 x]) (fun (_ : World) (x : Int) => (Lit.int .i64 x).wf = true) o i cap L) ∧ Hid (RK wr P li ai) ∧ Hid (Sofar p m l1 a1 i (L.map (fun x : Int => x)) li ai) ∧ Hid (Chg P w wr)) (fun _ iv _ => m - (intOf iv).toNat)
  case atStart => exact ⟨0, 0, none, [], l1, a1, rfl, rfl, by omega, LR.nil _ _ _ _ _ _, HB1, Sofar.start p m l1 a1, HC1⟩
  case round =>
    obtain ⟨i, cap, o, L, li, ai, rfl, rfl, him, HL, HB, HT, HW⟩ := hrel
    clear HB1 HC1 hs1
    have hsr := HW.out.size
    by_cases hlt : i < m
    · have hcl := (HL.out.capm).1
      have hcm := (HL.out.capm).2
      unfold maxLen at hcm
      go_wp2_with fail
      refine (HONE.out li ai _ hsr HB.out).mono ?_
      rintro r w2 ⟨d, v, l2, a2, rfl, hvd, hok, hb2, ho, c⟩
      have HT2 : Hid (Sofar p m l1 a1 (i + 1) ((L ++ [d]).map (fun x : Int => x)) l2 a2) := by
        have := HT.out.step hlt ho
        rw [List.map_append]
        exact this
      have HL2 : Hid (LR w2 w.heap.size 3 1 (fun x : Int => [Value.int .i64 x]) (fun (_ : World) (x : Int) => (Lit.int .i64 x).wf = true) o i cap L) := by
        have q : Kp (fun t => t != 41) wr w2 := Kp.readerK HB.out c _ (by decide)
        exact HL.out.kp q (by decide) (fun _ hd => hd)
      have HB2 : Hid (RK w2 P l2 a2) := hb2
      have HW2 : Hid (Chg P w w2) := HW.out.trans c
      have hs2 := c.size
      obtain ⟨d0, hd0⟩ : ∃ d0, d0 = d := ⟨_, rfl⟩
      have HD : Hid ((fun (_ : World) (x : Int) => (Lit.int .i64 x).wf = true) w2 d0) := by rw [hd0]; exact hok
      rw [← hd0] at HT2
      have HDC : Hid ((fun x : Int => [Value.int .i64 x]) d0 = [.int .i64 d]) := by subst hd0; rfl
      clear hd0 hok
      subst hvd
      clear c hb2 ho HL HB HW HT
      have bA : Below w2.heap.size w2 (w2.alloc (.cells #[.int .i64 d] 3)) := (Below.refl _ _).alloc (Nat.le_refl _) _
      have HBA : Hid (type_of% bA) := bA
      clear bA
      go_wp2_with (at_builtin; refine wpList_append_lies _ rfl _ _ 22 rfl w.heap.size 3 i0 (.int .i64 0) 1 8 Try.underlying22 hi hz0 hz1 hz2 rfl (by omega) _ i (L.flatMap (fun x : Int => [Value.int .i64 x])) rfl (HL2.out.own.alloc _) ⟨w2.heap.size, 0, none⟩ 1 1 [.int .i64 d] rfl rfl (World.news_of_block (cs := #[.int .i64 d]) (t := 3) (fr := (0, 0)) (heap_alloc_new w2 _)) (by simp [Value.oneCell']) (by omega) (by unfold maxLen; omega) (by omega) (by simp; omega) (w2.heap.size + 1) (by simp) ?_)
      intro g capg w3 hown hgrow hat hlt3
      have qA : Kp (farK 3) w2 w3 := (Kp.below _ HBA.out).trans (Kp.grown (HL2.out.own.alloc _) hgrow _ (by decide))
      have qB : Kp (fun t => t != 3) w2 w3 := (Kp.below _ HBA.out).trans (Kp.grown (HL2.out.own.alloc _) hgrow _ (by decide))
      have HL3 : Hid (LR w3 w.heap.size 3 1 (fun x : Int => [Value.int .i64 x]) (fun (_ : World) (x : Int) => (Lit.int .i64 x).wf = true) (some ⟨g, 0, none⟩) (i + 1) capg (L ++ [d0])) := by
        have q := qA
        exact HL2.out.app (fun _ hd => hd) HD.out (by rw [HDC.out]; exact hown)
      have HB3 : Hid (RK w3 P l2 a2) := HB2.out.kp qB (by decide)
      have HW3 : Hid (Chg P w w3) := Chg.grownK (HW2.out.trans (Chg.of_below HBA.out)) (HL2.out.own.alloc _) hgrow (Nat.le_refl _)
      clear hown hgrow hat hlt3 qA qB HL2 HB2 HW2 HD HDC HBA
      go_wp2
      go_roundw
      case rel => exact ⟨i + 1, capg, _, L ++ [d0], l2, a2, rfl, by go_num, by omega, HL3, HB3, HT2, HW3⟩
      case measure => simp [intOf]; omega
    · go_wp2
      go_ret
      have e : i = m := by omega
      subst e
      have hl := HL.out.len
      subst hl
      exact ⟨o, cap, L, li, ai, rfl, HL.out, HB.out, Sofar.list HCO.out.1 HT.out, HW.out, HCO.out.2⟩

theorem Try.infoKi64 : (Try.prog.info? 2).map (fun i => (i.zero, i.size, i.bytes)) = some (some (.int .i64 0), 1, 8) := by kernel_rfl
set_option maxHeartbeats 4000000 in
set_option maxRecDepth 1000000 in
theorem rlist_i64 (P : Nat) (most : Int) (hmost0 : 0 ≤ most) (hmost : most ≤ 200) (p : Rd Int) (w : World) (l : List Int) (a : Int) (h : RK w P l a)
    (HONE : Hid (∀ l a w', w.heap.size ≤ w'.heap.size → RK w' P l a → Calls Try.prog 34 #[.pointer (some ⟨P, 0, none⟩)] w' fun r w'' => ∃ (d : Int) (v : Value) (l' : List Int) (a' : Int), r = .returned v ∧ v = .int .i64 d ∧ (fun (_ : World) (x : Int) => (Lit.int .i64 x).wf = true) w'' d ∧ RK w'' P l' a' ∧ Outc p l a ((fun x : Int => x) d) l' a' ∧ Chg P w' w'')) :
    Calls Try.prog 33 #[.pointer (some ⟨P, 0, none⟩), .int .i64 most, .func (.func 34) #[.pointer (some ⟨P, 0, none⟩)] #[]] w fun r w' => ∃ (o : Option Addr) (cap : Nat) (L : List Int) (l' : List Int) (a' : Int), r = .returned (.slice o L.length cap) ∧ LR w' w.heap.size 2 1 (fun x : Int => [Value.int .i64 x]) (fun (_ : World) (x : Int) => (Lit.int .i64 x).wf = true) o L.length cap L ∧ RK w' P l' a' ∧ Outc (rList most p) l a (L.map (fun x : Int => x)) l' a' ∧ Chg P w w' ∧ (L.length : Int) ≤ most := by
  obtain ⟨i0, hi, hz0, hz1, hz2⟩ := info_parts Try.infoKi64
  have HC : Hid (type_of% (rcount_any P most l a w h)) := rcount_any P most l a w h
  have HOC : Hid (type_of% (out_count most hmost0 l a h.byte)) := out_count most hmost0 l a h.byte
  generalize mCnt most l a = z at HC HOC
  obtain ⟨x, l1, a1⟩ := z
  dsimp only at HC HOC
  clear h
  go_enter Try.func33, Try.ntmps33
  go_wp2_with fail
  refine HC.out.mono ?_
  clear HC
  rintro r w1 ⟨rfl, hb1, c⟩
  obtain ⟨hoc, hx0, hx1, _⟩ := HOC.out
  obtain ⟨m, rfl⟩ : ∃ m : Nat, x = (m : Int) := ⟨x.toNat, by omega⟩
  have hm : m ≤ 200 := by omega
  have HB1 : Hid (RK w1 P l1 a1) := hb1
  have HC1 : Hid (Chg P w w1) := c
  have HCO : Hid (Outc (rCount most) l a (m : Int) l1 a1 ∧ (m : Int) ≤ most) := ⟨hoc, hx1⟩
  have hs1 := c.size
  clear hb1 c hoc hx0 hx1 HOC
  go_wp2
  go_loopw [7, 11] (fun ls iv wr => ∃ i cap : Nat, ∃ o : Option Addr, ∃ L : List Int, ∃ li : List Int, ∃ ai : Int, ls = .slice o i cap ∧ iv = .int .i64 (i : Int) ∧ i ≤ m ∧ Hid (LR wr w.heap.size 2 1 (fun x : Int => [Value.int .i64 x]) (fun (_ : World) (x : Int) => (Lit.int .i64 x).wf = true) o i cap L) ∧ Hid (RK wr P li ai) ∧ Hid (Sofar p m l1 a1 i (L.map (fun x : Int => x)) li ai) ∧ Hid (Chg P w wr)) (fun _ iv _ => m - (intOf iv).toNat)
  case atStart => exact ⟨0, 0, none, [], l1, a1, rfl, rfl, by omega, LR.nil _ _ _ _ _ _, HB1, Sofar.start p m l1 a1, HC1⟩
  case round =>
    obtain ⟨i, cap, o, L, li, ai, rfl, rfl, him, HL, HB, HT, HW⟩ := hrel
    clear HB1 HC1 hs1
    have hsr := HW.out.size
    by_cases hlt : i < m
    · have hcl := (HL.out.capm).1
      have hcm := (HL.out.capm).2
      unfold maxLen at hcm
      go_wp2_with fail
      refine (HONE.out li ai _ hsr HB.out).mono ?_
      rintro r w2 ⟨d, v, l2, a2, rfl, hvd, hok, hb2, ho, c⟩
      have HT2 : Hid (Sofar p m l1 a1 (i + 1) ((L ++ [d]).map (fun x : Int => x)) l2 a2) := by
        have := HT.out.step hlt ho
        rw [List.map_append]
        exact this
      have HL2 : Hid (LR w2 w.heap.size 2 1 (fun x : Int => [Value.int .i64 x]) (fun (_ : World) (x : Int) => (Lit.int .i64 x).wf = true) o i cap L) := by
        have q : Kp (fun t => t != 41) wr w2 := Kp.readerK HB.out c _ (by decide)
        exact HL.out.kp q (by decide) (fun _ hd => hd)
      have HB2 : Hid (RK w2 P l2 a2) := hb2
      have HW2 : Hid (Chg P w w2) := HW.out.trans c
      have hs2 := c.size
      obtain ⟨d0, hd0⟩ : ∃ d0, d0 = d := ⟨_, rfl⟩
      have HD : Hid ((fun (_ : World) (x : Int) => (Lit.int .i64 x).wf = true) w2 d0) := by rw [hd0]; exact hok
      rw [← hd0] at HT2
      have HDC : Hid ((fun x : Int => [Value.int .i64 x]) d0 = [.int .i64 d]) := by subst hd0; rfl
      clear hd0 hok
      subst hvd
      clear c hb2 ho HL HB HW HT
      have bA : Below w2.heap.size w2 (w2.alloc (.cells #[.int .i64 d] 2)) := (Below.refl _ _).alloc (Nat.le_refl _) _
      have HBA : Hid (type_of% bA) := bA
      clear bA
      go_wp2_with (at_builtin; refine wpList_append_lies _ rfl _ _ 23 rfl w.heap.size 2 i0 (.int .i64 0) 1 8 Try.underlying23 hi hz0 hz1 hz2 rfl (by omega) _ i (L.flatMap (fun x : Int => [Value.int .i64 x])) rfl (HL2.out.own.alloc _) ⟨w2.heap.size, 0, none⟩ 1 1 [.int .i64 d] rfl rfl (World.news_of_block (cs := #[.int .i64 d]) (t := 2) (fr := (0, 0)) (heap_alloc_new w2 _)) (by simp [Value.oneCell']) (by omega) (by unfold maxLen; omega) (by omega) (by simp; omega) (w2.heap.size + 1) (by simp) ?_)
      intro g capg w3 hown hgrow hat hlt3
      have qA : Kp (farK 2) w2 w3 := (Kp.below _ HBA.out).trans (Kp.grown (HL2.out.own.alloc _) hgrow _ (by decide))
      have qB : Kp (fun t => t != 2) w2 w3 := (Kp.below _ HBA.out).trans (Kp.grown (HL2.out.own.alloc _) hgrow _ (by decide))
      have HL3 : Hid (LR w3 w.heap.size 2 1 (fun x : Int => [Value.int .i64 x]) (fun (_ : World) (x : Int) => (Lit.int .i64 x).wf = true) (some ⟨g, 0, none⟩) (i + 1) capg (L ++ [d0])) := by
        have q := qA
        exact HL2.out.app (fun _ hd => hd) HD.out (by rw [HDC.out]; exact hown)
      have HB3 : Hid (RK w3 P l2 a2) := HB2.out.kp qB (by decide)
      have HW3 : Hid (Chg P w w3) := Chg.grownK (HW2.out.trans (Chg.of_below HBA.out)) (HL2.out.own.alloc _) hgrow (Nat.le_refl _)
      clear hown hgrow hat hlt3 qA qB HL2 HB2 HW2 HD HDC HBA
      go_wp2
      go_roundw
      case rel => exact ⟨i + 1, capg, _, L ++ [d0], l2, a2, rfl, by go_num, by omega, HL3, HB3, HT2, HW3⟩
      case measure => simp [intOf]; omega
    · go_wp2
      go_ret
      have e : i = m := by omega
      subst e
      have hl := HL.out.len
      subst hl
      exact ⟨o, cap, L, li, ai, rfl, HL.out, HB.out, Sofar.list HCO.out.1 HT.out, HW.out, HCO.out.2⟩

theorem Try.infoKcal : (Try.prog.info? 55).map (fun i => (i.zero, i.size, i.bytes)) = some (some (.agg #[.int .i64 0, .int .i64 0, .slice none 0 0, .slice none 0 0]), 4, 64) := by kernel_rfl
set_option maxHeartbeats 4000000 in
set_option maxRecDepth 1000000 in
theorem rlist_cal (P : Nat) (most : Int) (hmost0 : 0 ≤ most) (hmost : most ≤ 200) (p : Rd CalV) (w : World) (l : List Int) (a : Int) (h : RK w P l a)
    (HONE : Hid (∀ l a w', w.heap.size ≤ w'.heap.size → RK w' P l a → Calls Try.prog 37 #[.pointer (some ⟨P, 0, none⟩)] w' fun r w'' => ∃ (d : CalD) (v : Value) (l' : List Int) (a' : Int), r = .returned v ∧ v = .agg #[.int .i64 d.f, .int .i64 d.a, .slice d.l.o d.l.n d.l.cap, .slice d.s.o d.s.n d.s.cap] ∧ CalG w'' d ∧ RK w'' P l' a' ∧ Outc p l a (CalD.val d) l' a' ∧ Chg P w' w'')) :
    Calls Try.prog 36 #[.pointer (some ⟨P, 0, none⟩), .int .i64 most, .func (.func 37) #[.pointer (some ⟨P, 0, none⟩)] #[]] w fun r w' => ∃ (o : Option Addr) (cap : Nat) (L : List CalD) (l' : List Int) (a' : Int), r = .returned (.slice o L.length cap) ∧ LR w' w.heap.size 55 4 CalD.cells CalG o L.length cap L ∧ RK w' P l' a' ∧ Outc (rList most p) l a (L.map CalD.val) l' a' ∧ Chg P w w' ∧ (L.length : Int) ≤ most := by
  obtain ⟨i0, hi, hz0, hz1, hz2⟩ := info_parts Try.infoKcal
  have HC : Hid (type_of% (rcount_any P most l a w h)) := rcount_any P most l a w h
  have HOC : Hid (type_of% (out_count most hmost0 l a h.byte)) := out_count most hmost0 l a h.byte
  generalize mCnt most l a = z at HC HOC
  obtain ⟨x, l1, a1⟩ := z
  dsimp only at HC HOC
  clear h
  go_enter Try.func36, Try.ntmps36
  go_wp2_with fail
  refine HC.out.mono ?_
  clear HC
  rintro r w1 ⟨rfl, hb1, c⟩
  obtain ⟨hoc, hx0, hx1, _⟩ := HOC.out
  obtain ⟨m, rfl⟩ : ∃ m : Nat, x = (m : Int) := ⟨x.toNat, by omega⟩
  have hm : m ≤ 200 := by omega
  have HB1 : Hid (RK w1 P l1 a1) := hb1
  have HC1 : Hid (Chg P w w1) := c
  have HCO : Hid (Outc (rCount most) l a (m : Int) l1 a1 ∧ (m : Int) ≤ most) := ⟨hoc, hx1⟩
  have hs1 := c.size
  clear hb1 c hoc hx0 hx1 HOC
  go_wp2
  go_loopw [7, 11] (fun ls iv wr => ∃ i cap : Nat, ∃ o : Option Addr, ∃ L : List CalD, ∃ li : List Int, ∃ ai : Int, ls = .slice o i cap ∧ iv = .int .i64 (i : Int) ∧ i ≤ m ∧ Hid (LR wr w.heap.size 55 4 CalD.cells CalG o i cap L) ∧ Hid (RK wr P li ai) ∧ Hid (Sofar p m l1 a1 i (L.map CalD.val) li ai) ∧ Hid (Chg P w wr)) (fun _ iv _ => m - (intOf iv).toNat)
  case atStart => exact ⟨0, 0, none, [], l1, a1, rfl, rfl, by omega, LR.nil _ _ _ _ _ _, HB1, Sofar.start p m l1 a1, HC1⟩
  case round =>
    obtain ⟨i, cap, o, L, li, ai, rfl, rfl, him, HL, HB, HT, HW⟩ := hrel
    clear HB1 HC1 hs1
    have hsr := HW.out.size
    by_cases hlt : i < m
    · have hcl := (HL.out.capm).1
      have hcm := (HL.out.capm).2
      unfold maxLen at hcm
      go_wp2_with fail
      refine (HONE.out li ai _ hsr HB.out).mono ?_
      rintro r w2 ⟨d, v, l2, a2, rfl, hvd, hok, hb2, ho, c⟩
      have HT2 : Hid (Sofar p m l1 a1 (i + 1) ((L ++ [d]).map CalD.val) l2 a2) := by
        have := HT.out.step hlt ho
        rw [List.map_append]
        exact this
      have HL2 : Hid (LR w2 w.heap.size 55 4 CalD.cells CalG o i cap L) := by
        have q : Kp (fun t => t != 41) wr w2 := Kp.readerK HB.out c _ (by decide)
        exact HL.out.kp q (by decide) (fun d hd => hd.kp q (by decide))
      have HB2 : Hid (RK w2 P l2 a2) := hb2
      have HW2 : Hid (Chg P w w2) := HW.out.trans c
      have hs2 := c.size
      obtain ⟨d0, hd0⟩ : ∃ d0, d0 = d := ⟨_, rfl⟩
      have HD : Hid (CalG w2 d0) := by rw [hd0]; exact hok
      rw [← hd0] at HT2
      obtain ⟨f1, a1, ⟨o3, n3, c3, x3⟩, ⟨o4, n4, c4, x4⟩⟩ := d
      have HDC : Hid (CalD.cells d0 = [.int .i64 f1, .int .i64 a1, .slice o3 n3 c3, .slice o4 n4 c4]) := by rw [hd0]; rfl
      clear hd0 hok
      dsimp only at hvd
      subst hvd
      clear c hb2 ho HL HB HW HT
      have bA : Below w2.heap.size w2 (w2.alloc (.cells #[.int .i64 f1, .int .i64 a1, .slice o3 n3 c3, .slice o4 n4 c4] 55)) := (Below.refl _ _).alloc (Nat.le_refl _) _
      have HBA : Hid (type_of% bA) := bA
      clear bA
      go_wp2_with (at_builtin; refine wpList_append_lies _ rfl _ _ 26 rfl w.heap.size 55 i0 (.agg #[.int .i64 0, .int .i64 0, .slice none 0 0, .slice none 0 0]) 4 64 Try.underlying26 hi hz0 hz1 hz2 rfl (by omega) _ i (L.flatMap CalD.cells) rfl (HL2.out.own.alloc _) ⟨w2.heap.size, 0, none⟩ 1 1 [.int .i64 f1, .int .i64 a1, .slice o3 n3 c3, .slice o4 n4 c4] rfl rfl (World.news_of_block (cs := #[.int .i64 f1, .int .i64 a1, .slice o3 n3 c3, .slice o4 n4 c4]) (t := 55) (fr := (0, 0)) (heap_alloc_new w2 _)) (by simp [Value.oneCell']) (by omega) (by unfold maxLen; omega) (by omega) (by simp; omega) (w2.heap.size + 1) (by simp) ?_)
      intro g capg w3 hown hgrow hat hlt3
      have qA : Kp (farK 55) w2 w3 := (Kp.below _ HBA.out).trans (Kp.grown (HL2.out.own.alloc _) hgrow _ (by decide))
      have qB : Kp (fun t => t != 55) w2 w3 := (Kp.below _ HBA.out).trans (Kp.grown (HL2.out.own.alloc _) hgrow _ (by decide))
      have HL3 : Hid (LR w3 w.heap.size 55 4 CalD.cells CalG (some ⟨g, 0, none⟩) (i + 1) capg (L ++ [d0])) := by
        have q := qA
        exact HL2.out.app (fun d hd => hd.kp q (by decide)) HD.out (by rw [HDC.out]; exact hown)
      have HB3 : Hid (RK w3 P l2 a2) := HB2.out.kp qB (by decide)
      have HW3 : Hid (Chg P w w3) := Chg.grownK (HW2.out.trans (Chg.of_below HBA.out)) (HL2.out.own.alloc _) hgrow (Nat.le_refl _)
      clear hown hgrow hat hlt3 qA qB HL2 HB2 HW2 HD HDC HBA
      go_wp2
      go_roundw
      case rel => exact ⟨i + 1, capg, _, L ++ [d0], l2, a2, rfl, by go_num, by omega, HL3, HB3, HT2, HW3⟩
      case measure => simp [intOf]; omega
    · go_wp2
      go_ret
      have e : i = m := by omega
      subst e
      have hl := HL.out.len
      subst hl
      exact ⟨o, cap, L, li, ai, rfl, HL.out, HB.out, Sofar.list HCO.out.1 HT.out, HW.out, HCO.out.2⟩
end Go.Proofs.Ytfmmefmpjejioaa
