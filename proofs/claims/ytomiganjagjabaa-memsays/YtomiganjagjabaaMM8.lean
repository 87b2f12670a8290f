/-
  What Store does.
-/
import Derived.Test.YtomiganjagjabaaMM7
namespace Go.Proofs.Ytomiganjagjabaa
open Go.RowKit

theorem wp_sliceHX {P : Program} {w : World} {ops : Array Oper} {rest : List Oper} {o : Oper} {a : Act} {Q : Exit → Act → World → Prop} (hgd : o.guard = none) (x i : Operand) (t : TypeId) (ho : o.op = .slice t x none (some i) none)
    (vx vi : Value) (hx : a.eval x = vx) (hi : a.eval i = vi) (p : Value) (hr : (Instr.sliceAt t vx none (some vi) none).run P w = .ok p w) (h : wpList P ops Q rest (a.put o.dst p) w) : wpList P ops Q (o :: rest) a w := by
  refine wpList_plain hgd fun K hK => ?_
  unfold Oper.wp
  simp [execOp, ho, hx, hi, hr, Result.andThen]
  exact hK _ _ h
/-- A number's 64 bits. -/
def u64 (v : Int) : Nat := (v % 18446744073709551616).toNat
theorem convU (v : Int) (w : World) : (convert 2 60 (.int .i64 v)).run Try.prog w = .ok (.int .u64 (u64 v : Int)) w := by
  simp [go_sem]
  rw [IntKind.wrap_u64]
  unfold u64
  omega
theorem slice8 (Q k : Nat) (hk : k ≤ 8) (w : World) : (Instr.sliceAt 59 (.pointer (some ⟨Q, 0, none⟩)) none (some (.int .i64 (k : Int))) none).run Try.prog w = .ok (.slice (some ⟨Q, 0, none⟩) k 8) w := by
  have ha : Try.prog.arrayLen 59 = 8 := by unfold Program.arrayLen; rw [Try.underlying59]
  have he : Try.prog.elem 59 = 5 := by unfold Program.elem; rw [Try.underlying59]
  have := run_sliceAt_array_h (P := Try.prog) w 59 ⟨Q, 0, none⟩ (by rw [ha, he]; exact Try.underlying59) .i64 (k : Int) (by omega) (by rw [ha]; omega)
  rw [this, he, ha, Try.sizeOf5]
  simp only [Result.andThen_ok, slicedAt, Int.toNat_natCast]
  rw [if_neg (by decide), addOf]
  rfl
theorem store8 (v : Nat) (w : World) : ∃ W, Hid ((Instr.storeAt 59 (.pointer (some ⟨w.heap.size, 0, none⟩)) (.agg (bC (by8 v)).toArray)).run Try.prog (w.alloc (.cells #[.int .u8 0, .int .u8 0, .int .u8 0, .int .u8 0, .int .u8 0, .int .u8 0, .int .u8 0, .int .u8 0] 59)) = .ok () W) ∧
    A8 W w.heap.size (by8 v) ∧ Below w.heap.size w W ∧ w.heap.size < W.heap.size := by
  have hl : (by8 v).length = 8 := by rw [← byK_all, byK_len]
  refine ⟨_, (A8.new w).store hl, (A8.new w).row hl, below_setRow ((Below.refl _ _).alloc (Nat.le_refl _) _) (Nat.le_refl _) _, ?_⟩
  rw [World.setRow, Array.size_modify, World.size_alloc]
  omega
theorem insW_cases (op : Int) : insW op = 0 ∨ insW op = 1 ∨ insW op = 2 ∨ insW op = 4 ∨ insW op = 8 := by
  unfold insW
  split
  · exact Or.inr (Or.inl rfl)
  split
  · exact Or.inr (Or.inr (Or.inl rfl))
  split
  · exact Or.inr (Or.inr (Or.inr (Or.inl rfl)))
  split
  · exact Or.inr (Or.inr (Or.inr (Or.inr rfl)))
  · exact Or.inl rfl
/-- What Store says. -/
def stE (K op base off : Int) : Int := if insW op = 0 ∨ op < 54 then 6 else plE K base off (insW op)
set_option maxHeartbeats 1000000 in
set_option maxRecDepth 1000000 in
theorem store_un (P : Nat) (op base off v : Int) (h : insW op = 0 ∨ op < 54) (w : World) :
    Calls Try.prog 15 #[.pointer (some ⟨P, 0, none⟩), .int .u8 op, .int .i64 base, .int .i64 off, .int .i64 v] w fun r w' => r = .returned (.int .i64 6) ∧ w' = w := by
  have HW := width_any op w
  by_cases h0 : insW op = 0
  · rw [h0] at HW
    go_enter Try.func15, Try.ntmps15
    go_wp2_with (go_at_call 27; refine HW.mono ?_; rintro r w1 ⟨rfl, rfl⟩)
    go_ret
    exact ⟨rfl, rfl⟩
  · have h1 : op < 54 := by omega
    have h2 : ((insW op : Int) == 0) = false := by rw [beq_eq_false_iff_ne]; exact h0
    clear h
    go_enter Try.func15, Try.ntmps15
    go_wp2_with (go_at_call 27; refine HW.mono ?_; rintro r w1 ⟨rfl, rfl⟩)
    go_ret
    exact ⟨rfl, rfl⟩
set_option maxHeartbeats 1000000 in
set_option maxRecDepth 1000000 in
theorem store_no (P g n : Nat) (most : Int) (b : List Int) (op base off v : Int) (wd : Nat) (hwd : insW op = (wd : Int)) (h0 : wd ≠ 0) (h8 : wd ≤ 8) (h54 : ¬ op < 54) (he : plE b.length base off wd ≠ 0) (w : World) (h : MB w P g n most b) :
    Calls Try.prog 15 #[.pointer (some ⟨P, 0, none⟩), .int .u8 op, .int .i64 base, .int .i64 off, .int .i64 v] w fun r w' => r = .returned (.int .i64 (plE b.length base off wd)) ∧ w' = w := by
  have HW := width_any op w
  rw [hwd] at HW
  have HP := place_any P g n most b base off wd h8 w h
  obtain ⟨e, hee⟩ : ∃ e, e = plE b.length base off wd := ⟨_, rfl⟩
  rw [← hee] at HP he ⊢
  have h2 : ((wd : Int) == 0) = false := by rw [beq_eq_false_iff_ne]; omega
  have h3 : (e == 0) = false := by rw [beq_eq_false_iff_ne]; exact he
  have HP2 : Hid (Calls Try.prog 28 #[.pointer (some ⟨P, 0, none⟩), .int .i64 base, .int .i64 off, .int .i64 (wd : Int)] w fun r w' => r = .returned (.tuple #[.int .i64 0, .int .i64 e]) ∧ w' = w) := by
    refine HP.mono ?_
    rintro r w' ⟨h, ⟨_, h2⟩ | ⟨h1, _⟩⟩
    · exact ⟨h2, h⟩
    · exact absurd h1 he
  clear h HP hee he hwd h0 h8
  go_enter Try.func15, Try.ntmps15
  go_wp2_with (first | (go_at_call 27; refine HW.mono ?_; rintro r w1 ⟨rfl, rfl⟩) | (go_at_call 28; refine HP2.out.mono ?_; rintro r w1 ⟨rfl, rfl⟩))
  go_ret
  exact ⟨rfl, rfl⟩
set_option maxHeartbeats 1000000 in
set_option maxRecDepth 1000000 in
theorem store_yes (P g n : Nat) (most : Int) (b : List Int) (op base off v : Int) (wd a : Nat) (hwd : insW op = (wd : Int)) (h0 : wd ≠ 0) (h8 : wd ≤ 8) (h54 : ¬ op < 54) (he : plE b.length base off wd = 0) (ha : base % 4294967296 + off = (a : Int)) (w : World) (h : MB w P g n most b) :
    Calls Try.prog 15 #[.pointer (some ⟨P, 0, none⟩), .int .u8 op, .int .i64 base, .int .i64 off, .int .i64 v] w fun r w' => r = .returned (.int .i64 0) ∧ MB w' P g n most (splice b a ((by8 (u64 v)).take wd)) ∧ Chg g w w' := by
  have HW := width_any op w
  rw [hwd] at HW
  have HP := place_any P g n most b base off wd h8 w h
  have hfit : a + wd ≤ b.length := by
    unfold plE at he
    split at he
    · exact absurd he (by decide)
    · split at he
      · exact absurd he (by decide)
      · omega
  rw [he, ha] at HP
  have h2 : ((wd : Int) == 0) = false := by rw [beq_eq_false_iff_ne]; omega
  have HP2 : Hid (Calls Try.prog 28 #[.pointer (some ⟨P, 0, none⟩), .int .i64 base, .int .i64 off, .int .i64 (wd : Int)] w fun r w' => r = .returned (.tuple #[.int .i64 (a : Int), .int .i64 0]) ∧ w' = w) := by
    refine HP.mono ?_
    rintro r w' ⟨h, ⟨h1, _⟩ | ⟨_, h2⟩⟩
    · exact absurd rfl h1
    · exact ⟨h2, h⟩
  have hlt := h.lt
  obtain ⟨⟨cap, L, hm, hb, hby⟩, hn8, hlen⟩ := h
  obtain ⟨V, hV⟩ : ∃ V, V = u64 v := ⟨_, rfl⟩
  have HCU : Hid (type_of% (convU v w)) := convU v w
  rw [← hV] at HCU ⊢
  have HBY := bytesOf_any V w
  have hl8 : (by8 V).length = 8 := by rw [← byK_all, byK_len]
  have HF : Hid (∀ w2, Below w.heap.size w w2 → ∃ W, Hid ((Instr.storeAt 59 (.pointer (some ⟨w2.heap.size, 0, none⟩)) (.agg (bC (by8 V)).toArray)).run Try.prog (w2.alloc (.cells #[.int .u8 0, .int .u8 0, .int .u8 0, .int .u8 0, .int .u8 0, .int .u8 0, .int .u8 0, .int .u8 0] 59)) = .ok () W) ∧
      Hid ((Instr.sliceAt 59 (.pointer (some ⟨w2.heap.size, 0, none⟩)) none (some (.int .i64 (wd : Int))) none).run Try.prog W = .ok (.slice (some ⟨w2.heap.size, 0, none⟩) wd 8) W) ∧
      Hid (Calls Try.prog 25 #[.pointer (some ⟨P, 0, none⟩), .int .i64 (a : Int), .slice (some ⟨w2.heap.size, 0, none⟩) wd 8] W fun r w' => r = .returned (.tuple #[]) ∧ MB w' P g n most (splice b a ((by8 V).take wd)) ∧ Chg g w w')) := by
    intro w2 hb2
    obtain ⟨W, hst, hA, hbw, hsz⟩ := store8 V w2
    have hs2 := hb2.size
    have hmW : MA W P g n cap most L := (hm.under hb2).under hbw
    have hlw : ((by8 V).take wd).length = wd := by rw [List.length_take]; omega
    refine ⟨W, hst, slice8 _ _ h8 _, (mwrite_any P g n cap most L w2.heap.size 0 wd 8 a ((by8 V).take wd) W hmW hlw (by omega) hsz ?_ hn8 (by omega) h8).mono ?_⟩
    · intro j x hx
      have hj : j < wd := by
        rcases Nat.lt_or_ge j wd with h | h
        · exact h
        · rw [List.getElem?_eq_none (by omega)] at hx; cases hx
      rw [List.getElem?_take_of_lt hj] at hx
      rw [Nat.zero_add, hA.c j (by omega)]
      simp [List.getD, hx]
    · rintro r w3 ⟨rfl, hc3, hg3⟩
      refine ⟨rfl, MB.put cap L a hmW hb hby hn8 hlen (by omega) (fun x hx => by8_bts V x (List.mem_of_mem_take hx)) hc3 hg3, ?_⟩
      exact ((Chg.of_below hb2).trans (Chg.of_below hbw)).trans hc3
  clear hm hb hby hlen hlt hl8 hfit HP hV he ha hwd h0 h8 hn8
  go_enter Try.func15, Try.ntmps15
  go_wp2_with (first | (go_at_call 27; refine HW.mono ?_; rintro r w1 ⟨rfl, rfl⟩) | (go_at_call 28; refine HP2.out.mono ?_; rintro r w1 ⟨rfl, rfl⟩) | (refine wp_convX rfl (.tmp 34) 2 60 rfl _ rfl _ _ HCU.out ?_))
  refine HBY.mono ?_
  rintro r w2 ⟨rfl, hb2⟩
  obtain ⟨W, HST, HSL, HWR⟩ := HF.out w2 hb2
  clear hb2 HF HP2 HCU
  go_wp2_with (first | (refine wp_storeX rfl (.tmp 14) (.tmp 36) 59 rfl _ _ rfl rfl _ HST.out ?_) | (refine wp_sliceHX rfl (.tmp 14) (.tmp 39) 59 rfl _ _ rfl rfl _ HSL.out ?_))
  refine HWR.out.mono ?_
  rintro r w3 ⟨rfl, hm3, hc3⟩
  have HM3 : Hid (type_of% hm3) := hm3
  have HC3 : Hid (type_of% hc3) := hc3
  clear hm3 hc3 HWR HST HSL
  go_wp2
  go_ret
  exact ⟨rfl, HM3.out, HC3.out⟩
end Go.Proofs.Ytomiganjagjabaa
