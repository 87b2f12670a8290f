/-
  What the document's own InsRead does.
-/
import Derived.Test.YtmbficofcmfmlaaDoorRRd1
import Derived.Test.YtmbficofcmfmlaaDoorGWid
import Derived.Deep.RegionLaw
import Derived.Deep.AppendLies
import Derived.Deep.RegionWith
namespace Go.Proofs.YtmbficofcmfmlaaDoor
open Go.RowKit

theorem letters_get (F : ByteArray) (pos : Nat) (h : pos < F.size) : (nums F).drop pos = ((F[pos]'h).toNat : Int) :: (nums F).drop (pos + 1) := nums_drop F pos h
/-- The letters that stand beside instructions: a list of numbers stands alone. -/
def LettersOk (F : ByteArray) : Prop := ∀ pos (h : pos < F.size), (((F[pos]'h).toNat = 107 ∨ (F[pos]'h).toNat = 97 ∨ (F[pos]'h).toNat = 98 ∨ (F[pos]'h).toNat = 122 ∨ (F[pos]'h).toNat = 99 ∨ (F[pos]'h).toNat = 100 ∨ (F[pos]'h).toNat = 63) ∨ ((F[pos]'h).toNat = 116 ∧ pos = 0))
theorem qNum_range (l : List Int) (a : Int) (hl : ∀ b ∈ l, 0 ≤ b ∧ b < 256) : 0 ≤ (qNum l a).1 := by
  unfold qNum
  split
  · exact mNum_nonneg l 0 hl
  · exact Int.le_refl _
theorem qNext_byte (l : List Int) (a : Int) (hl : ∀ b ∈ l, 0 ≤ b ∧ b < 256) : 0 ≤ (qNext l a).1 ∧ (qNext l a).1 < 256 := by
  unfold qNext
  split
  · exact mNext_byte l 0 hl
  · omega
theorem frz7 {w w6 w7 : World} {R P X I : Nat} {F : ByteArray} {pos : Nat} {op n A B : Int} {o : Option Addr} {cap : Nat} {To l : List Int} {a : Int} {ob : Obj} (h : RdS w w6 R P X I F pos op n A B o cap To l a) (hg : (w6.alloc ob).grownBy w7 (Value.slice o To.length cap).ownBlock) : w7.frozen? ⟨X, 3, none⟩ = false := by
  have h2 := h.under ((Below.refl w6.heap.size w6).alloc (Nat.le_refl _) ob)
  have e := hg.block X h2.lts.2.2.1 (Ne.symm (own_far h.far _).2.2.1)
  rw [World.frozen?_of_block (a := ⟨X, 3, none⟩) e]
  exact h2.frozen 3
theorem cel7 {w w6 w7 : World} {R P X I : Nat} {F : ByteArray} {pos : Nat} {op n A B : Int} {o : Option Addr} {cap : Nat} {To l : List Int} {a : Int} {ob : Obj} (h : RdS w w6 R P X I F pos op n A B o cap To l a) (hg : (w6.alloc ob).grownBy w7 (Value.slice o To.length cap).ownBlock) : w7.cell? ⟨X, 3, none⟩ = some (.slice o To.length cap) := by
  have h2 := h.under ((Below.refl w6.heap.size w6).alloc (Nat.le_refl _) ob)
  have e := hg.block X h2.lts.2.2.1 (Ne.symm (own_far h.far _).2.2.1)
  rw [World.cell?_of_block (a := ⟨X, 3, none⟩) e]
  exact h2.ins.cell.2.2.2
set_option maxHeartbeats 8000000 in
set_option maxRecDepth 1000000 in
theorem rread_core (s F : ByteArray) (hs : s.size ≤ maxLen) (hF : LettersOk F) (l1 : List Int) (op a1 : Int) (h0 : 0 ≤ op) (h1 : op < 256) (b : Bool) (hq : (F.toList == [63]) = b) (Q : QSt) (w : World)
    (HO : Hid (mNext (nums s) 0 = (op, l1, a1)))
    (HB : Hid (∀ w', Below w.heap.size w w' → Calls Tryd.prog 50 #[.int .u8 op] w' fun e w'' => e = .returned (.string F) ∧ Below w'.heap.size w' w''))
    (HQ0 : Hid (qFold (nums F) ⟨0, 0, [], l1, if b then fstE a1 6 else a1⟩ = Q)) :
    Calls Tryd.prog 35 #[.string s] w fun r w' => Below w.heap.size w w' ∧
      ((¬ Q.a = 0 ∧ r = .returned (.tuple #[.agg #[.int .u8 0, .int .i64 0, .int .i64 0, .slice none 0 0], .int .i64 0, .int .i64 Q.a])) ∨
       (Q.a = 0 ∧ ∃ o cap, r = .returned (.tuple #[.agg #[.int .u8 op, .int .i64 Q.A, .int .i64 Q.B, .slice o Q.To.length cap], .int .i64 ((s.size : Int) - (Q.l.length : Int)), .int .i64 0]) ∧ w'.ownsRow w.heap.size 2 1 (.slice o Q.To.length cap) Q.To.length (Q.To.map (Value.int .i64)))) := by
  have hs63 : s.size ≤ 9223372036854775807 := by unfold maxLen at hs; omega
  have HLF : Hid (LettersOk F) := hF
  have Hs : Hid (s.size ≤ maxLen) := hs
  clear hF hs
  go_enter Tryd.func35, Tryd.ntmps35
  go_wp2_with fail
  refine (over_any s hs63 _).mono ?_
  rintro e w1 ⟨rfl, r1, b1⟩
  rw [World.size_alloc] at r1 b1 ⊢
  have hs1 : w.heap.size + 1 < w1.heap.size := r1.lt
  have xR1 : XS w1 w.heap.size (.int .u8 0) (.int .i64 0) (.int .i64 0) (.slice none 0 0) := by
    unfold XS
    rw [b1.block w.heap.size (by simp)]
    exact new_block _ _
  have HB1 : Hid (Below w.heap.size w w1) := ((Below.refl _ _).alloc (Nat.le_refl _) _).trans (b1.mono (by simp))
  have HO1 : Hid (Calls Tryd.prog 59 #[.pointer (some ⟨w.heap.size + 1, 0, none⟩)] w1 fun r w' => r = .returned (.int .i64 op) ∧ CL w' (w.heap.size + 1) l1 s.size a1 ∧ Chg (w.heap.size + 1) w1 w') := by
    have := qoctet (w.heap.size + 1) (nums s) s.size 0 w1 ⟨s, rfl, Hs.out, r1⟩
    unfold qNext at this
    rw [if_pos rfl, HO.out] at this
    exact this
  have HXR1 : Hid (type_of% xR1) := xR1
  clear r1 b1 xR1
  go_wp2_with fail
  refine HO1.out.mono ?_
  rintro e w2 ⟨rfl, r2, c2⟩
  have hs2 : w1.heap.size ≤ w2.heap.size := c2.size
  have HR2 : Hid (type_of% r2) := r2
  have HXR2 : Hid (type_of% (XS.chg HXR1.out c2 (by omega))) := XS.chg HXR1.out c2 (by omega)
  have HB2 : Hid (Below w.heap.size w w2) := HB1.out.trans (c2.below (by omega) (by omega))
  clear r2 c2 HXR1 HB1 HO1
  have hop : IntKind.u8.wrap op = op := by unfold IntKind.wrap; simp [IntKind.signed, IntKind.bits]; omega
  go_wp2_with fail
  refine (HB.out _ (HB2.out.alloc (by omega) _)).mono ?_
  rintro e w3 ⟨rfl, b3⟩
  have hs3 : w2.heap.size < w3.heap.size := by have := b3.size; simp at this; omega
  have HX3 : Hid (XS w3 w2.heap.size (.int .u8 op) (.int .i64 0) (.int .i64 0) (.slice none 0 0)) := by
    unfold Hid XS
    rw [b3.block w2.heap.size (by simp)]
    exact new_block _ _
  have HXR3 : Hid (XS w3 w.heap.size (.int .u8 0) (.int .i64 0) (.int .i64 0) (.slice none 0 0)) := by
    have := HXR2.out
    unfold Hid
    unfold XS at this ⊢
    rw [b3.block w.heap.size (by simp; omega), Below.heap_alloc _ _ _ (by omega)]
    exact this
  have HR3 : Hid (CL w3 (w.heap.size + 1) l1 s.size a1) := HR2.out.heap (by rw [b3.block _ (by simp; omega), Below.heap_alloc _ _ _ (by omega)])
  have HB3 : Hid (Below w.heap.size w w3) := (HB2.out.alloc (by omega) _).trans (b3.mono (by simp; omega))
  clear b3 HR2 HXR2 HB2 HB
  generalize w2.heap.size = X at hs2 hs3 HX3 ⊢
  go_wp2_with fail
  refine (HR3.out.say b 6).mono ?_
  rintro e w4 ⟨rfl, r4, c4⟩
  have hs4 : w3.heap.size ≤ w4.heap.size := c4.size
  have HX4 : Hid (type_of% (XS.chg HX3.out c4 (by omega))) := XS.chg HX3.out c4 (by omega)
  have HXR4 : Hid (type_of% (XS.chg HXR3.out c4 (by omega))) := XS.chg HXR3.out c4 (by omega)
  have HB4 : Hid (Below w.heap.size w w4) := HB3.out.trans (c4.below (by omega) (by omega))
  have HR4 : Hid (type_of% r4) := r4
  clear r4 c4 HR3 HXR3 HX3 HB3
  generalize (if b = true then fstE a1 6 else a1) = a0 at HR4 HQ0
  have HS0 : Hid (RdS w (w4.iter F 0) w.heap.size (w.heap.size + 1) X w4.heap.size F 0 op s.size 0 0 none 0 [] l1 a0) :=
    ⟨⟨Nat.le_refl _, by omega, by omega, by omega, by omega, by omega, by omega, by omega, by omega, by omega⟩,
      XS.under HXR4.out ((Below.refl _ _).alloc (Nat.le_refl _) _), HR4.out.heap (Below.heap_alloc _ _ _ (by omega)), XS.under HX4.out ((Below.refl _ _).alloc (Nat.le_refl _) _), World.iter_heap _ _ _, World.ownsRow_nil _ _ _ _, by simp, HB4.out.alloc (by omega) _⟩
  have hw4 : w.heap.size ≤ w4.heap.size := by omega
  clear HX4 HXR4 HB4 HR4
  go_wp2
  go_loopw [] (fun wr => ∃ pos : Nat, ∃ A B : Int, ∃ o : Option Addr, ∃ cap : Nat, ∃ To l : List Int, ∃ a : Int, Hid (RdS w wr w.heap.size (w.heap.size + 1) X w4.heap.size F pos op s.size A B o cap To l a) ∧ Hid (qFold ((nums F).drop pos) ⟨A, B, To, l, a⟩ = Q) ∧ Hid (pos = 0 → To = [])) (fun wr => F.size - wr.iterPos w4.heap.size)
  case atStart => exact ⟨0, 0, 0, none, 0, [], l1, a0, HS0, HQ0, fun _ => rfl⟩
  case round =>
    obtain ⟨pos, A, B, o, cap, To, l, a, HS, HQ, HT⟩ := hrel
    clear HS0 HQ0 hq hop
    by_cases hp : pos < F.size
    · have hc := HLF.out pos hp
      have hcs := letters_get F pos hp
      have h128 : (F[pos]'hp).toNat < 128 := by omega
      have hnx : ∀ ty, (Instr.next (.pointer (some ⟨w4.heap.size, 0, none⟩)) true ty).run Tryd.prog wr = .ok (.tuple #[.bool true, .int .i64 pos, .int .i32 (F[pos]'hp).toNat]) (wr.iterAt w4.heap.size F (pos + 1)) := fun ty => Lib.run_next_ascii_at wr w4.heap.size F pos ty HS.out.iter hp h128
      have S1 : Hid (type_of% (HS.out.chgI (pos + 1))) := HS.out.chgI (pos + 1)
      obtain ⟨w1, hw1⟩ : ∃ w1, wr.iterAt w4.heap.size F (pos + 1) = w1 := ⟨_, rfl⟩
      rw [hw1] at hnx S1
      have HQ1 : Hid (qFold ((nums F).drop (pos + 1)) (qStep ((F[pos]'hp).toNat : Int) ⟨A, B, To, l, a⟩) = Q) := by
        unfold Hid
        rw [← qFold_cons, ← hcs]
        exact HQ.out
      clear hw1 hcs h128 HQ
      have hpw : (pos : Int) < (F.size : Int) := by omega
      generalize (F[pos]'hp).toNat = c at hc hnx HQ1
      rcases hc with (rfl | rfl | rfl | rfl | rfl | rfl | rfl) | ⟨rfl, rfl⟩
      · obtain ⟨⟨x, l2, a2⟩, hq⟩ : ∃ m, qNext l a = m := ⟨_, rfl⟩
        have hx := qNext_byte l a S1.out.cur.byte
        rw [hq] at hx
        obtain ⟨hx0, hx1⟩ := hx
        dsimp only at hx0 hx1
        obtain ⟨b, hb⟩ : ∃ b, (!isKB x) = b := ⟨_, rfl⟩
        have HQ2 : Hid (qFold ((nums F).drop (pos + 1)) ⟨x, B, To, l2, if b then fstE a2 6 else a2⟩ = Q) := by
          unfold Hid
          have := HQ1.out
          rw [qStep] at this
          rw [← hb]
          cases hk : isKB x <;> simpa [hq, hk] using this
        have HC : Hid (type_of% (qoctet (w.heap.size + 1) l s.size a w1 S1.out.cur)) := qoctet (w.heap.size + 1) l s.size a w1 S1.out.cur
        rw [hq] at HC
        have HBK : Hid ((!isKB x) = b) := hb
        clear HQ1 hq hb
        go_wp2_with fail
        refine HC.out.mono ?_
        rintro e w2 ⟨rfl, r2, c2⟩
        have S2 := S1.out.chgP c2 r2
        obtain ⟨x0, x1, x2, x3⟩ := S2.ins.cell
        have f1 := S2.frozen 1
        have S3 : RdS w (w2.setCell ⟨X, 1, none⟩ (.int .i64 x)) w.heap.size (w.heap.size + 1) X w4.heap.size F (pos + 1) op s.size x B o cap To l2 a2 := S2.setA x
        obtain ⟨y0, y1, y2, y3⟩ := S3.ins.cell
        have HS3 : Hid (RdS w (w2.setCell ⟨X, 1, none⟩ (.int .i64 x)) w.heap.size (w.heap.size + 1) X w4.heap.size F (pos + 1) op s.size x B o cap To l2 a2) := S3
        clear S2 r2 c2 HC S3
        have hxs : x = 64 ∨ x = 126 ∨ x = 127 ∨ (x ≠ 64 ∧ x ≠ 126 ∧ x ≠ 127) := by omega
        rcases hxs with rfl | rfl | rfl | ⟨n1, n2, n3⟩
        case inl | inr.inl | inr.inr.inl =>
          have eb : b = false := by rw [← HBK.out]; rfl
          subst eb
          clear HBK
          go_wp2_with fail
          refine (HS3.out.cur.say false 6).mono ?_
          rintro e w4 ⟨rfl, r4, c4⟩
          have HS4 : Hid (type_of% (HS3.out.chgP c4 r4)) := HS3.out.chgP c4 r4
          clear r4 c4 x0 x1 x2 x3 y0 y1 y2 y3 f1
          go_wp2
          go_roundw
          case rel => exact ⟨pos + 1, _, _, o, cap, To, _, _, HS4, HQ2, by unfold Hid; omega⟩
          case measure =>
            rw [iterPos_of HS.out.iter, iterPos_of HS4.out.iter]
            omega
        case inr.inr.inr =>
          have e1 : (x == 64) = false := by rw [beq_eq_false_iff_ne]; exact n1
          have e2 : (x == 126) = false := by rw [beq_eq_false_iff_ne]; exact n2
          have e3 : (x == 127) = false := by rw [beq_eq_false_iff_ne]; exact n3
          have e4 : (x != 64) = true := by rw [bne, e1]; rfl
          have e5 : (x != 126) = true := by rw [bne, e2]; rfl
          have e6 : (x != 127) = true := by rw [bne, e3]; rfl
          have eb : b = true := by rw [← HBK.out]; unfold isKB; rw [e1, e2, e3]; rfl
          subst eb
          clear HBK n1 n2 n3
          go_wp2_with fail
          refine (HS3.out.cur.say true 6).mono ?_
          rintro e w4 ⟨rfl, r4, c4⟩
          have HS4 : Hid (type_of% (HS3.out.chgP c4 r4)) := HS3.out.chgP c4 r4
          clear r4 c4 x0 x1 x2 x3 y0 y1 y2 y3 f1
          go_wp2
          go_roundw
          case rel => exact ⟨pos + 1, _, _, o, cap, To, _, _, HS4, HQ2, by unfold Hid; omega⟩
          case measure =>
            rw [iterPos_of HS.out.iter, iterPos_of HS4.out.iter]
            omega
      · obtain ⟨⟨x, l2, a2⟩, hq⟩ : ∃ m, qNum l a = m := ⟨_, rfl⟩
        have HQ2 : Hid (qFold ((nums F).drop (pos + 1)) ⟨x, B, To, l2, a2⟩ = Q) := by
          unfold Hid
          have := HQ1.out
          rw [qStep] at this
          simpa [hq] using this
        have HC : Hid (type_of% (qnum (w.heap.size + 1) l s.size a w1 S1.out.cur)) := qnum (w.heap.size + 1) l s.size a w1 S1.out.cur
        rw [hq] at HC
        clear HQ1 hq
        go_wp2_with fail
        refine HC.out.mono ?_
        rintro e w2 ⟨rfl, r2, c2⟩
        have S2 := S1.out.chgP c2 r2
        obtain ⟨x0, x1, x2, x3⟩ := S2.ins.cell
        have f1 := S2.frozen 1
        have HS2 : Hid (RdS w (w2.setCell ⟨X, 1, none⟩ (.int .i64 x)) w.heap.size (w.heap.size + 1) X w4.heap.size F (pos + 1) op s.size x B o cap To l2 a2) := S2.setA x
        clear S2 r2 c2 HC
        go_wp2
        go_roundw
        case rel => exact ⟨pos + 1, _, _, o, cap, To, _, _, HS2, HQ2, by unfold Hid; omega⟩
        case measure =>
          rw [iterPos_of HS.out.iter, iterPos_of HS2.out.iter]
          omega
      · obtain ⟨⟨x, l2, a2⟩, hq⟩ : ∃ m, qNum l a = m := ⟨_, rfl⟩
        have HQ2 : Hid (qFold ((nums F).drop (pos + 1)) ⟨A, x, To, l2, a2⟩ = Q) := by
          unfold Hid
          have := HQ1.out
          rw [qStep] at this
          simpa [hq] using this
        have HC : Hid (type_of% (qnum (w.heap.size + 1) l s.size a w1 S1.out.cur)) := qnum (w.heap.size + 1) l s.size a w1 S1.out.cur
        rw [hq] at HC
        clear HQ1 hq
        go_wp2_with fail
        refine HC.out.mono ?_
        rintro e w2 ⟨rfl, r2, c2⟩
        have S2 := S1.out.chgP c2 r2
        obtain ⟨x0, x1, x2, x3⟩ := S2.ins.cell
        have f1 := S2.frozen 2
        have HS2 : Hid (RdS w (w2.setCell ⟨X, 2, none⟩ (.int .i64 x)) w.heap.size (w.heap.size + 1) X w4.heap.size F (pos + 1) op s.size A x o cap To l2 a2) := S2.setB x
        clear S2 r2 c2 HC
        go_wp2
        go_roundw
        case rel => exact ⟨pos + 1, _, _, o, cap, To, _, _, HS2, HQ2, by unfold Hid; omega⟩
        case measure =>
          rw [iterPos_of HS.out.iter, iterPos_of HS2.out.iter]
          omega
      · obtain ⟨⟨x, l2, a2⟩, hq⟩ : ∃ m, qNext l a = m := ⟨_, rfl⟩
        obtain ⟨b, hb⟩ : ∃ b, (x != 0) = b := ⟨_, rfl⟩
        have HQ2 : Hid (qFold ((nums F).drop (pos + 1)) ⟨A, B, To, l2, if b then fstE a2 4 else a2⟩ = Q) := by
          unfold Hid
          have := HQ1.out
          rw [qStep] at this
          rw [← hb]
          by_cases hk : x = 0
          · subst hk; simpa [hq] using this
          · simpa [hq, hk] using this
        have HC : Hid (type_of% (qoctet (w.heap.size + 1) l s.size a w1 S1.out.cur)) := qoctet (w.heap.size + 1) l s.size a w1 S1.out.cur
        rw [hq] at HC
        clear HQ1 hq
        go_wp2_with fail
        refine HC.out.mono ?_
        rintro e w2 ⟨rfl, r2, c2⟩
        have HS2 : Hid (type_of% (S1.out.chgP c2 r2)) := S1.out.chgP c2 r2
        clear r2 c2 HC
        go_wp2_with fail
        refine (HS2.out.cur.say b 4).mono ?_
        rintro e w4 ⟨rfl, r4, c4⟩
        have HS4 : Hid (type_of% (HS2.out.chgP c4 r4)) := HS2.out.chgP c4 r4
        clear r4 c4
        go_wp2
        go_roundw
        case rel => exact ⟨pos + 1, _, _, o, cap, To, _, _, HS4, HQ2, by unfold Hid; omega⟩
        case measure =>
          rw [iterPos_of HS.out.iter, iterPos_of HS4.out.iter]
          omega
      · obtain ⟨⟨x, l2, a2⟩, hq⟩ : ∃ m, qSig 32 l a = m := ⟨_, rfl⟩
        have HQ2 : Hid (qFold ((nums F).drop (pos + 1)) ⟨x, B, To, l2, a2⟩ = Q) := by
          unfold Hid
          have := HQ1.out
          rw [qStep] at this
          simpa [hq] using this
        have HC : Hid (type_of% (qsig (w.heap.size + 1) 32 (by omega) l s.size a w1 S1.out.cur)) := qsig (w.heap.size + 1) 32 (by omega) l s.size a w1 S1.out.cur
        rw [hq] at HC
        clear HQ1 hq
        go_wp2_with fail
        refine HC.out.mono ?_
        rintro e w2 ⟨rfl, r2, c2⟩
        have S2 := S1.out.chgP c2 r2
        obtain ⟨x0, x1, x2, x3⟩ := S2.ins.cell
        have f1 := S2.frozen 1
        have HS2 : Hid (RdS w (w2.setCell ⟨X, 1, none⟩ (.int .i64 x)) w.heap.size (w.heap.size + 1) X w4.heap.size F (pos + 1) op s.size x B o cap To l2 a2) := S2.setA x
        clear S2 r2 c2 HC
        go_wp2
        go_roundw
        case rel => exact ⟨pos + 1, _, _, o, cap, To, _, _, HS2, HQ2, by unfold Hid; omega⟩
        case measure =>
          rw [iterPos_of HS.out.iter, iterPos_of HS2.out.iter]
          omega
      · obtain ⟨⟨x, l2, a2⟩, hq⟩ : ∃ m, qSig 64 l a = m := ⟨_, rfl⟩
        have HQ2 : Hid (qFold ((nums F).drop (pos + 1)) ⟨x, B, To, l2, a2⟩ = Q) := by
          unfold Hid
          have := HQ1.out
          rw [qStep] at this
          simpa [hq] using this
        have HC : Hid (type_of% (qsig (w.heap.size + 1) 64 (by omega) l s.size a w1 S1.out.cur)) := qsig (w.heap.size + 1) 64 (by omega) l s.size a w1 S1.out.cur
        rw [hq] at HC
        clear HQ1 hq
        go_wp2_with fail
        refine HC.out.mono ?_
        rintro e w2 ⟨rfl, r2, c2⟩
        have S2 := S1.out.chgP c2 r2
        obtain ⟨x0, x1, x2, x3⟩ := S2.ins.cell
        have f1 := S2.frozen 1
        have HS2 : Hid (RdS w (w2.setCell ⟨X, 1, none⟩ (.int .i64 x)) w.heap.size (w.heap.size + 1) X w4.heap.size F (pos + 1) op s.size x B o cap To l2 a2) := S2.setA x
        clear S2 r2 c2 HC
        go_wp2
        go_roundw
        case rel => exact ⟨pos + 1, _, _, o, cap, To, _, _, HS2, HQ2, by unfold Hid; omega⟩
        case measure =>
          rw [iterPos_of HS.out.iter, iterPos_of HS2.out.iter]
          omega
      · have HQ2 : Hid (qFold ((nums F).drop (pos + 1)) ⟨A, B, To, l, a⟩ = Q) := by
          unfold Hid
          have := HQ1.out
          rw [qStep] at this
          simpa using this
        clear HQ1
        go_wp2
        go_roundw
        case rel => exact ⟨pos + 1, _, _, o, cap, To, _, _, S1, HQ2, by unfold Hid; omega⟩
        case measure =>
          rw [iterPos_of HS.out.iter, iterPos_of S1.out.iter]
          omega
      · have hT0 := HT.out rfl
        subst hT0
        obtain ⟨⟨x, l2, a2⟩, hq⟩ : ∃ m, qNum l a = m := ⟨_, rfl⟩
        have hx := qNum_range l a S1.out.cur.byte
        rw [hq] at hx
        dsimp only at hx
        obtain ⟨N, rfl⟩ : ∃ N : Nat, x = (N : Int) := ⟨x.toNat, by omega⟩
        obtain ⟨b, hb⟩ : ∃ b, decide ((N : Int) > 16) = b := ⟨_, rfl⟩
        obtain ⟨⟨TF, lF, aF⟩, hF⟩ : ∃ m, qNumsF N l2 (if b then fstE a2 2 else a2) = m := ⟨_, rfl⟩
        have hbad : (if b then fstE a2 2 else a2) = 0 → N ≤ 16 := by
          intro h
          cases b with
          | false => have := of_decide_eq_false hb; omega
          | true =>
            rw [if_pos rfl] at h
            unfold fstE at h
            split at h
            · omega
            · contradiction
        obtain ⟨⟨z, l3, a3⟩, hz⟩ : ∃ m, qNum lF aF = m := ⟨_, rfl⟩
        have HQ2 : Hid (qFold ((nums F).drop 1) ⟨z, B, TF, l3, a3⟩ = Q) := by
          unfold Hid
          have := HQ1.out
          rw [qStep] at this
          simp only [qTab, hq] at this
          rw [← hb] at hF
          simp only [decide_eq_true_eq] at hF
          simp only [Int.toNat_natCast, hF, hz] at this
          simpa using this
        have HC : Hid (type_of% (qnum (w.heap.size + 1) l s.size a w1 S1.out.cur)) := qnum (w.heap.size + 1) l s.size a w1 S1.out.cur
        rw [hq] at HC
        have Hz : Hid (qNum lF aF = (z, l3, a3)) := hz
        have HF : Hid (qNumsF N l2 (if b then fstE a2 2 else a2) = (TF, lF, aF)) := hF
        have HBAD : Hid ((if b then fstE a2 2 else a2) = 0 → N ≤ 16) := hbad
        have Hb : Hid (decide ((N : Int) > 16) = b) := hb
        clear HQ1 hq hF hz hbad hb hx
        obtain ⟨i0, hi, hz0, hz1, hz2⟩ := info_parts Tryd.infoI64
        go_wp2_with fail
        refine HC.out.mono ?_
        rintro e w2 ⟨rfl, r2, c2⟩
        have HS2 : Hid (type_of% (S1.out.chgP c2 r2)) := S1.out.chgP c2 r2
        clear r2 c2 HC
        have HSAY : Hid (Calls Tryd.prog 60 #[.pointer (some ⟨w.heap.size + 1, 0, none⟩), .bool (decide ((16 : Int) < (N : Int))), .int .i64 2] w2 fun r w' => r = .returned (.tuple #[]) ∧ CL w' (w.heap.size + 1) l2 s.size (if b then fstE a2 2 else a2) ∧ Chg (w.heap.size + 1) w2 w') := by
          have e1 : decide ((16 : Int) < (N : Int)) = b := Hb.out
          rw [e1]
          exact HS2.out.cur.say b 2
        go_wp2_with fail
        refine HSAY.out.mono ?_
        rintro e v4 ⟨rfl, r4, c4⟩
        have HS4 : Hid (type_of% (HS2.out.chgP c4 r4)) := HS2.out.chgP c4 r4
        clear r4 c4 HS2 HSAY S1
        generalize (if b then fstE a2 2 else a2) = a4 at HS4 HF HBAD
        go_wp2
        go_loopw [] (fun wt => ∃ o : Option Addr, ∃ cap : Nat, ∃ To lk : List Int, ∃ ak : Int, Hid (RdS w wt w.heap.size (w.heap.size + 1) X w4.heap.size F 1 op s.size A B o cap To lk ak) ∧ Hid (To.length ≤ N ∧ (ak = 0 → N ≤ 16) ∧ (To ++ (qNumsF (N - To.length) lk ak).1, (qNumsF (N - To.length) lk ak).2) = (TF, lF, aF))) (fun wt => N - lenAt wt X)
        case atStart => exact ⟨o, cap, [], l2, a4, HS4, by unfold Hid; exact ⟨by simp, HBAD.out, by have := HF.out; simp [this]⟩⟩
        case round =>
          obtain ⟨o2, cap2, To2, lk, ak, HSk, HIk⟩ := hrel
          clear HS4
          obtain ⟨x0, x1, x2, x3⟩ := HSk.out.ins.cell
          obtain ⟨sk, hsk1, hsk2, hsk⟩ := HSk.out.cur
          obtain ⟨d0, d1, d2⟩ := hsk.cell
          clear hsk hsk1 hsk2
          obtain ⟨hcap2, hcap3⟩ := HSk.out.capLe
          unfold maxLen at hcap3
          by_cases hgo : ak = 0 ∧ To2.length < N
          · obtain ⟨rfl, hlt⟩ := hgo
            have h16 : N ≤ 16 := HIk.out.2.1 rfl
            obtain ⟨⟨y, l5, a5⟩, hy⟩ : ∃ m, qNum lk 0 = m := ⟨_, rfl⟩
            have HI5 : Hid ((To2 ++ [y]).length ≤ N ∧ (a5 = 0 → N ≤ 16) ∧ ((To2 ++ [y]) ++ (qNumsF (N - (To2 ++ [y]).length) l5 a5).1, (qNumsF (N - (To2 ++ [y]).length) l5 a5).2) = (TF, lF, aF)) := by
              obtain ⟨_, _, h3⟩ := HIk.out
              have hl : (To2 ++ [y]).length = To2.length + 1 := by simp
              unfold Hid
              rw [hl]
              rw [show N - To2.length = (N - (To2.length + 1)) + 1 by omega, qNumsF, if_pos rfl, hy] at h3
              refine ⟨by omega, fun _ => h16, ?_⟩
              rw [← h3, List.append_assoc]
              rfl
            have HN : Hid (∀ w', RdS w w' w.heap.size (w.heap.size + 1) X w4.heap.size F 1 op s.size A B o2 cap2 To2 lk 0 → Calls Tryd.prog 61 #[.pointer (some ⟨w.heap.size + 1, 0, none⟩)] w' fun r w'' => r = .returned (.int .i64 y) ∧ RdS w w'' w.heap.size (w.heap.size + 1) X w4.heap.size F 1 op s.size A B o2 cap2 To2 l5 a5 ∧ Chg (w.heap.size + 1) w' w'') := fun w' h => by
              have := qnum (w.heap.size + 1) lk s.size 0 w' h.cur
              rw [hy] at this
              refine this.mono ?_
              rintro r w2 ⟨rfl, r2, c2⟩
              exact ⟨rfl, h.chgP c2 r2, c2⟩
            have Hlk : Hid (RdS w wr w.heap.size (w.heap.size + 1) X w4.heap.size F 1 op s.size A B o2 cap2 To2 lk 0) := HSk
            have f3 := HSk.out.frozen 3
            have hXP : X ≠ w.heap.size + 1 := HSk.out.four.px.symm
            have hXw : X < wr.heap.size := HSk.out.lts.2.2.1
            have HLA : Hid (lenAt wr X = To2.length) := lenAt_of HSk.out.ins
            have hox : (Value.slice o2 To2.length cap2).ownBlock ≠ some X := (own_far HSk.out.far _).2.2.1
            have hlt2 : (To2.length : Int) < (N : Int) := by omega
            clear hy HIk HSk HBAD HF d0 d1
            go_wp2
            go_region_law (first
              | ((refine step_append_lies _ (by rfl) _ _ _ (by rfl) w.heap.size 2 i0 _ 1 8 Tryd.underlying50 hi hz0 hz1 hz2 rfl (by omega) (.slice o2 To2.length cap2) To2.length (To2.map (Value.int .i64)) (by rfl) (HR6.out.to.alloc _)
                    ⟨w6.heap.size, 0, none⟩ 1 1 [.int .i64 y] (by rfl) (by rfl) (World.news_of_block (cs := #[.int .i64 y]) (t := 2) (fr := (0, 0)) (heap_alloc_new w6 _)) (by simp [Value.oneCell'])
                    (by omega) (by unfold maxLen; omega) (by omega) (by have := HR6.out.below.size; simp; omega) (w6.heap.size + 1) (by simp) ?_; intro gg cap7 w7 hown7 hgrow hat hlt7; have f7 : w7.frozen? ⟨X, 3, none⟩ = false := frz7 HR6.out hgrow; have x7 : w7.cell? ⟨X, 3, none⟩ = some (.slice o2 To2.length cap2) := cel7 HR6.out hgrow))
              | (go_simp; go_at_call 61; refine (HN.out _ Hlk.out.drew).mono ?_; rintro e w6 ⟨rfl, r6, c6⟩; have HR6 : Hid (RdS w w6 w.heap.size (w.heap.size + 1) X w4.heap.size F 1 op s.size A B o2 cap2 To2 l5 a5) := r6; obtain ⟨z0, z1, z2, z3⟩ := r6.ins.cell; have hX6 : X < w6.heap.size := r6.lts.2.2.1; have hX6n : X ≠ w6.heap.size := Nat.ne_of_lt hX6; clear r6 c6))
            all_goals
              have HS7 : Hid (RdS w (w7.setCell ⟨X, 3, none⟩ (.slice (some ⟨gg, 0, none⟩) (To2.length + 1) cap7)) w.heap.size (w.heap.size + 1) X w4.heap.size F 1 op s.size A B (some ⟨gg, 0, none⟩) cap7 (To2 ++ [y]) l5 a5) :=
                RdS.app (HR6.out.under ((Below.refl _ _).alloc (Nat.le_refl _) _)) hgrow hown7 (by simpa using hat)
              clear hown7 hgrow hat hlt7 HR6 HN Hlk
              go_wp2
              go_roundw
              case rel => exact ⟨_, _, _, _, _, HS7, HI5⟩
              case measure =>
                rw [HLA.out, lenAt_of HS7.out.ins]
                have : (To2 ++ [y]).length = To2.length + 1 := by simp
                omega
          · have hex : To2 = TF ∧ lk = lF ∧ ak = aF := by
              obtain ⟨h1, _, h3⟩ := HIk.out
              by_cases hak : ak = 0
              · have hl : N - To2.length = 0 := by have := fun h => hgo ⟨hak, h⟩; omega
                rw [hl, qNumsF] at h3
                simp only [List.append_nil, Prod.mk.injEq] at h3
                exact h3
              · rw [qNumsF_bad _ _ _ hak] at h3
                simp only [List.append_nil, Prod.mk.injEq] at h3
                exact h3
            obtain ⟨rfl, rfl, rfl⟩ := hex
            have HC2 : Hid (type_of% (qnum (w.heap.size + 1) lk s.size ak wr HSk.out.cur)) := qnum (w.heap.size + 1) lk s.size ak wr HSk.out.cur
            rw [Hz.out] at HC2
            clear HIk HF HBAD Hz
            have hgo2 : ak = 0 ∨ ak ≠ 0 := by omega
            rcases hgo2 with rfl | hak
            case inl =>
              have hge : (N : Int) ≤ (To2.length : Int) := by have := fun h => hgo ⟨rfl, h⟩; omega
              clear hgo
              go_wp2_with fail
              refine HC2.out.mono ?_
              rintro e w8 ⟨rfl, r8, c8⟩
              have S8 := HSk.out.chgP c8 r8
              obtain ⟨x0, x1, x2, x3⟩ := S8.ins.cell
              have f1 := S8.frozen 1
              have HS8 : Hid (type_of% (S8.setA z)) := S8.setA z
              clear S8 r8 c8 HC2 d0 d1 d2
              go_wp2
              go_roundw
              case rel => exact ⟨1, _, _, _, _, _, _, _, HS8, HQ2, by unfold Hid; omega⟩
              case measure =>
                rw [iterPos_of HS.out.iter, iterPos_of HS8.out.iter]
                omega
            case inr =>
              have hab : (ak == 0) = false := by rw [beq_eq_false_iff_ne]; exact hak
              clear hgo hak
              go_wp2_with fail
              refine HC2.out.mono ?_
              rintro e w8 ⟨rfl, r8, c8⟩
              have S8 := HSk.out.chgP c8 r8
              obtain ⟨x0, x1, x2, x3⟩ := S8.ins.cell
              have f1 := S8.frozen 1
              have HS8 : Hid (type_of% (S8.setA z)) := S8.setA z
              clear S8 r8 c8 HC2 d0 d1 d2
              go_wp2
              go_roundw
              case rel => exact ⟨1, _, _, _, _, _, _, _, HS8, HQ2, by unfold Hid; omega⟩
              case measure =>
                rw [iterPos_of HS.out.iter, iterPos_of HS8.out.iter]
                omega
    · have hnx : ∀ ty, (Instr.next (.pointer (some ⟨w4.heap.size, 0, none⟩)) true ty).run Tryd.prog wr = .ok (.tuple #[.bool false]) wr := fun ty => Lib.run_next_end_at wr w4.heap.size F pos ty HS.out.iter hp
      have hq : (⟨A, B, To, l, a⟩ : QSt) = Q := by
        have := HQ.out
        rw [List.drop_eq_nil_of_le (by rw [nums_length]; omega)] at this
        exact this
      subst hq
      clear HQ HT
      obtain ⟨sk, hsk1, hsk2, hsk⟩ := HS.out.cur
      subst hsk1
      have HCS : Hid (CS wr (w.heap.size + 1) sk s.size a) := hsk
      have hsk3 : sk.size ≤ 9223372036854775807 := by unfold maxLen at hsk2; omega
      obtain ⟨d0, d1, d2⟩ := hsk.cell
      clear hsk hsk2
      have xR := HS.out.res
      obtain ⟨y0, y1, y2, y3⟩ := xR.cell
      have f0 := xR.frozen 0
      have f1 := xR.frozen 1
      have f2 := xR.frozen 2
      have f3 := xR.frozen 3
      have HB : Hid (Below w.heap.size w wr) := HS.out.below
      by_cases ha : a = 0
      · subst ha
        obtain ⟨x0, x1, x2, x3⟩ := HS.out.ins.cell
        have hn0 : (0 : Int) ≤ (s.size : Int) := by omega
        have hn1 : (s.size : Int) ≤ 9223372036854775807 := by omega
        have hXw : X < wr.heap.size := HS.out.ins.lt
        have hRw : w.heap.size < wr.heap.size := xR.lt
        have HOW : Hid (∀ w2, Below wr.heap.size wr w2 → w2.ownsRow w.heap.size 2 1 (.slice o To.length cap) To.length (To.map (Value.int .i64))) := fun w2 b => HS.out.own b
        have HFA : Hid ((Value.slice o To.length cap).ownBlock ≠ some w.heap.size) := (own_far HS.out.far _).1
        have HXR : Hid (type_of% xR) := xR
        have hRX : w.heap.size ≠ X := HS.out.four.rx
        have hRP : w.heap.size + 1 ≠ w.heap.size := by omega
        clear xR HS
        go_wp2
        go_region_with (first
          | (go_at_call 63; refine (at_any (w.heap.size + 1) sk s.size 0 _ (by first | exact HCS.out | exact (((CS.far HCS.out w.heap.size 0 _ hRP).far w.heap.size 1 _ hRP).far w.heap.size 2 _ hRP).far w.heap.size 3 _ hRP) hsk3 hn0 hn1).mono ?_; rintro e w5 ⟨rfl, rfl⟩))
        all_goals
          go_wp2
          have q0 := (HXR.out.set0 (.int .u8 op)).cell.1
          have q1 := ((HXR.out.set0 (.int .u8 op)).set1 (.int .i64 A)).cell.2.1
          have q2 := (((HXR.out.set0 (.int .u8 op)).set1 (.int .i64 A)).set2 (.int .i64 B)).cell.2.2.1
          have q3 := ((((HXR.out.set0 (.int .u8 op)).set1 (.int .i64 A)).set2 (.int .i64 B)).set3 (.slice o To.length cap)).cell.2.2.2
          have hown := own_set (Y := w.heap.size) (i := 3) (v := .slice o To.length cap) (own_set (Y := w.heap.size) (i := 2) (v := .int .i64 B) (own_set (Y := w.heap.size) (i := 1) (v := .int .i64 A) (own_set (Y := w.heap.size) (i := 0) (v := .int .u8 op) (HOW.out wr (Below.refl _ _)) HFA.out) HFA.out) HFA.out) HFA.out
          have hbel := (((HB.out.setCell (p := ⟨w.heap.size, 0, none⟩) (Nat.le_refl _) (.int .u8 op)).setCell (p := ⟨w.heap.size, 1, none⟩) (Nat.le_refl _) (.int .i64 A)).setCell (p := ⟨w.heap.size, 2, none⟩) (Nat.le_refl _) (.int .i64 B)).setCell (p := ⟨w.heap.size, 3, none⟩) (Nat.le_refl _) (.slice o To.length cap)
          refine bodyPost_ret (v := .tuple #[.agg #[(.int .u8 op), (.int .i64 A), (.int .i64 B), (.slice o To.length cap)], .int .i64 ((s.size : Int) - (sk.size : Int)), .int .i64 0]) (by simp [results, Tryd.results35, go_sem, q0, q1, q2, q3]) rfl ?_
          refine ⟨⟨hbel.os, hbel.tape, hbel.output, hbel.size, hbel.block⟩, ?_⟩
          rw [nums_length]
          first | exact Or.inr ⟨rfl, _, _, rfl, hown⟩ | exact ⟨_, _, rfl, hown⟩
      · have hab : (a == 0) = false := by rw [beq_eq_false_iff_ne]; exact ha
        have han : (a != 0) = true := by rw [bne, hab]; rfl
        have HFX : Hid (XS _ _ _ _ _ _) := (((xR.set0 (.int .u8 0)).set1 (.int .i64 0)).set2 (.int .i64 0)).set3 (.slice none 0 0)
        clear xR HCS HS
        go_wp2
        go_region
        go_wp2
        obtain ⟨q0, q1, q2, q3⟩ := XS.cell HFX.out
        refine bodyPost_ret (v := .tuple #[.agg #[(.int .u8 0), (.int .i64 0), (.int .i64 0), (.slice none 0 0)], .int .i64 0, .int .i64 a]) (by simp [results, Tryd.results35, go_sem, q0, q1, q2, q3]) rfl ?_
        exact ⟨((((HB.out.setCell (p := ⟨w.heap.size, 0, none⟩) (Nat.le_refl _) _).setCell (p := ⟨w.heap.size, 1, none⟩) (Nat.le_refl _) _).setCell (p := ⟨w.heap.size, 2, none⟩) (Nat.le_refl _) _).setCell (p := ⟨w.heap.size, 3, none⟩) (Nat.le_refl _) _).drew, by first | exact Or.inl ⟨ha, rfl⟩ | rfl⟩
end Go.Proofs.YtmbficofcmfmlaaDoor
