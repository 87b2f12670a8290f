/-
  Folding, the document's own way: up to which place a block goes.
  Folding: what is dead goes.
-/
import Derived.Test.YtkceplamaocmmaaGreatDoorZFK2
import Derived.Test.YtkceplamaocmmaaGreatDoorZPI
set_option maxHeartbeats 8000000
set_option maxRecDepth 1000000
namespace Go.Proofs.YtkceplamaocmmaaGreatDoor
open Go.RowKit
set_option linter.unusedVariables false
def upV : List Int → Int → Int → Int → Int × Int
  | [], c, _, h => (c - 1, h)
  | x :: r, c, o, h => if x = 11 then (if o - 1 ≤ 0 then (c, h) else upV r (c + 1) (o - 1) h) else if x = 5 then upV r (c + 1) o (if o = 1 then c else h) else upV r (c + 1) (if 2 ≤ x ∧ x ≤ 4 then o + 1 else o) h
section
variable {L : List InsD} {E S : List Int}
theorem ops_drop (L : List InsD) (i : Nat) (h : i < L.length) : (L.map InsD.op).drop i = opAt L i :: (L.map InsD.op).drop (i + 1) := by
  rw [List.drop_eq_getElem_cons (by rw [List.length_map]; exact h), List.getElem_map, opAt_get L i h]
theorem up_skip (L : List InsD) (i : Nat) (h : i < L.length) (o5 : opAt L i ≠ 5) (o11 : opAt L i ≠ 11) (c o hf : Int) : upV ((L.map InsD.op).drop i) c o hf = upV ((L.map InsD.op).drop (i + 1)) (c + 1) (if 2 ≤ opAt L i ∧ opAt L i ≤ 4 then o + 1 else o) hf := by
  rw [ops_drop L i h, upV, if_neg o11, if_neg o5]
theorem up_end (L : List InsD) (i : Nat) (h : i < L.length) (o11 : opAt L i = 11) (c o hf : Int) : upV ((L.map InsD.op).drop i) c o hf = if o - 1 ≤ 0 then (c, hf) else upV ((L.map InsD.op).drop (i + 1)) (c + 1) (o - 1) hf := by
  rw [ops_drop L i h, upV, if_pos o11]
theorem up_else (L : List InsD) (i : Nat) (h : i < L.length) (o5 : opAt L i = 5) (c o hf : Int) : upV ((L.map InsD.op).drop i) c o hf = upV ((L.map InsD.op).drop (i + 1)) (c + 1) o (if o = 1 then c else hf) := by
  rw [ops_drop L i h, upV, if_neg (by omega), if_pos o5]
theorem seg_up {i j d s : Nat} (h : Seg L E S i j d s) : ∀ c o hf : Int, 1 ≤ o → upV ((L.map InsD.op).drop i) c o hf = upV ((L.map InsD.op).drop j) (c + ((j : Int) - (i : Int))) o hf := by
  induction h with
  | nil i h => intro c o hf ho; rw [Int.sub_self, Int.add_zero]
  | single i j d s h o o5 o11 e r ih =>
    intro c op hf ho
    have hl := r.le
    rw [up_skip L i (by omega) o5 o11, if_neg (by unfold isO at o; omega), ih _ _ _ ho]
    congr 1
    omega
  | block i q j d1 s1 d s h hq oo oq e r1 r ih1 ih =>
    intro c op hf ho
    have hl := r.le
    rw [up_skip L i (by omega) (by omega) (by omega), if_pos (by omega), ih1 _ _ _ (by omega), up_end L q (by omega) oq, if_neg (by omega), ih _ _ _ (by omega)]
    congr 1 <;> omega
  | ifN i q j d1 s1 d s h hq oo oq e t r1 r ih1 ih =>
    intro c op hf ho
    have hl := r.le
    rw [up_skip L i (by omega) (by omega) (by omega), if_pos (by omega), ih1 _ _ _ (by omega), up_end L q (by omega) oq, if_neg (by omega), ih _ _ _ (by omega)]
    congr 1 <;> omega
  | ifE i t q j d1 s1 d2 s2 d s h ht hq oo ot oq e te r1 r2 r ih1 ih2 ih =>
    intro c op hf ho
    have hl := r.le
    rw [up_skip L i (by omega) (by omega) (by omega), if_pos (by omega), ih1 _ _ _ (by omega), up_else L t (by omega) ot, if_neg (by omega), ih2 _ _ _ (by omega), up_end L q (by omega) oq, if_neg (by omega), ih _ _ _ (by omega)]
    congr 1 <;> omega
end
theorem up_at {L : List InsD} (hL : Fine L) (p : Nat) (hp : p < L.length) (ho : isO (opAt L p)) : ∃ q : Nat, (matchOf L).2.1.getD p 0 = (q : Int) ∧ p < q ∧ q + 1 < L.length ∧ opAt L q = 11 ∧ ((upV ((L.map InsD.op).drop p) 0 0 (-1) = ((q : Int) - (p : Int), -1) ∧ (opAt L p = 4 → (matchOf L).2.2.getD p 0 = -1)) ∨ (opAt L p = 4 ∧ ∃ t : Nat, (matchOf L).2.2.getD p 0 = (t : Int) ∧ p < t ∧ t < q ∧ upV ((L.map InsD.op).drop p) 0 0 (-1) = ((q : Int) - (p : Int), (t : Int) - (p : Int)))) := by
  have h5 : opAt L p ≠ 5 := by unfold isO at ho; omega
  have h11 : opAt L p ≠ 11 := by unfold isO at ho; omega
  have h24 : 2 ≤ opAt L p ∧ opAt L p ≤ 4 := by unfold isO at ho; omega
  cases fine_at hL p hp h5 h11 with
  | one o e => exact absurd ho o
  | block q d s h hq o oq e r =>
    refine ⟨q, e, h, by omega, oq, Or.inl ⟨?_, fun h4 => by omega⟩⟩
    rw [up_skip L p hp h5 h11, if_pos h24, seg_up r _ _ _ (by omega), up_end L q (by omega) oq, if_pos (by omega)]
    simp only [Prod.mk.injEq, and_true]
    omega
  | turn t q d s d2 s2 h ht hq o ot oq e te r r2 =>
    refine ⟨q, e, by omega, by omega, oq, Or.inr ⟨o, t, te, h, ht, ?_⟩⟩
    rw [up_skip L p hp h5 h11, if_pos h24, seg_up r _ _ _ (by omega), up_else L t (by omega) ot, if_pos (by omega), seg_up r2 _ _ _ (by omega), up_end L q (by omega) oq, if_pos (by omega)]
    simp only [Prod.mk.injEq]
    omega
end Go.Proofs.YtkceplamaocmmaaGreatDoor
namespace Go.Proofs.YtkceplamaocmmaaGreatDoor
open Go.RowKit
set_option linter.unusedVariables false
theorem ends_at {L : List InsD} (hL : Fine L) (p : Nat) (hp : p < L.length) (p5 : opAt L p ≠ 5) (p11 : opAt L p ≠ 11) : (matchOf L).2.1.getD p 0 = -1 ∨ ∃ q : Nat, (matchOf L).2.1.getD p 0 = (q : Int) ∧ q < L.length := by
  cases fine_at hL p hp p5 p11 with
  | one o e => exact Or.inl e
  | block q d s h hq o oq e r => exact Or.inr ⟨q, e, by omega⟩
  | turn t q d s d2 s2 h ht hq o ot oq e te r r2 => exact Or.inr ⟨q, e, by omega⟩
theorem fsize (o : Option Addr) (cap : Nat) (L : List InsD) (p : Nat) (w : World) (hc : nChk L = 0) (hp : p < L.length) (hE : (matchOf L).2.1.getD p 0 = -1 ∨ ∃ q : Nat, (matchOf L).2.1.getD p 0 = (q : Int) ∧ q < L.length) (h : LD w o L) (hF : FA w) :
    Calls Tryz.prog 79 #[.slice o L.length cap, .int .i64 (p : Int)] w fun r w' => r = .returned (.int .i64 (sizeE (matchOf L).2.1 p : Nat)) ∧ Below w.heap.size w w' := by
  have hn := (nChk_ok L hc).1
  have hm := match_any o cap L w h hF.tab hF.sz hc
  have HM : Hid (type_of% hm) := hm
  clear hm h hF hc
  have hp0 : (0 : Int) ≤ (p : Int) := by omega
  have hp1 : (p : Int) < (L.length : Int) := by omega
  generalize L.length = n at *
  unfold sizeE
  generalize (matchOf L).2.1 = E at *
  generalize (matchOf L).2.2 = S at *
  generalize (matchOf L).1 = O at *
  obtain ⟨ev, hev⟩ : ∃ ev, ev = E.getD p 0 := ⟨_, rfl⟩
  rw [← hev] at hE ⊢
  have HEV : Hid (type_of% hev) := hev
  clear hev
  by_cases hlt : ev < (p : Int)
  · rw [if_pos hlt]
    go_enter Tryz.func79, Tryz.ntmps79
    go_wp2_with fail
    refine HM.out.mono ?_
    rintro r w1 ⟨gE, gS, o2, cap2, rfl, hms⟩
    have hce := (hms.cellE p hp).1
    rw [← HEV.out] at hce
    have HB : Hid (type_of% hms.below) := hms.below
    clear hms
    go_wp2
    go_ret
    exact ⟨rfl, HB.out⟩
  · rw [if_neg hlt]
    obtain ⟨q, rfl, hq⟩ : ∃ q : Nat, ev = (q : Int) ∧ q < n := by
      rcases hE with e | e
      · omega
      · exact e
    have e : (((q : Int).toNat + 1 - p : Nat) : Int) = (q : Int) + 1 - (p : Int) := by omega
    rw [e]
    have hw1 : IntKind.i64.wrap ((q : Int) + 1) = (q : Int) + 1 := by rw [IntKind.wrap_i64]; omega
    have hw2 : IntKind.i64.wrap ((q : Int) + 1 - (p : Int)) = (q : Int) + 1 - (p : Int) := by rw [IntKind.wrap_i64]; omega
    clear hE e
    go_enter Tryz.func79, Tryz.ntmps79
    go_wp2_with fail
    refine HM.out.mono ?_
    rintro r w1 ⟨gE, gS, o2, cap2, rfl, hms⟩
    have hce := (hms.cellE p hp).1
    rw [← HEV.out] at hce
    have HB : Hid (type_of% hms.below) := hms.below
    clear hms
    go_wp2
    go_ret
    exact ⟨rfl, HB.out⟩
theorem sizeE_le (E : List Int) (p n : Nat) (h : E.getD p 0 = -1 ∨ ∃ q : Nat, E.getD p 0 = (q : Int) ∧ q < n) : sizeE E p ≤ n + 1 := by
  unfold sizeE
  split
  · omega
  · rcases h with h | ⟨q, h, hq⟩ <;> rw [h] <;> omega
theorem rout_oneX {w wa : World} (b : Below w.heap.size w wa) (k : Nat) (kk : Int) (hk : kk = (k : Int)) (d : InsD) (hd : d.ok w) : ROut w ((wa.alloc (.cells #[.int .u8 d.op, .int .i64 d.A, .int .i64 d.B, .slice d.o d.n d.cap] 34)).alloc (.cells #[.int .i64 kk, .slice (some ⟨wa.heap.size, 0, none⟩) 1 1] 46)) (.returned (.pointer (some ⟨wa.heap.size + 1, 0, none⟩))) (some (k, [d])) := by
  subst hk
  exact rout_oneB b k d (hd.below b)
theorem rout_oneY {w wa wb : World} (b : Below w.heap.size w wa) (k : Nat) (kk : Int) (hk : kk = (k : Int)) (d : InsD) (hd : d.ok w) (b2 : Below (wa.alloc (.cells #[.int .u8 d.op, .int .i64 d.A, .int .i64 d.B, .slice d.o d.n d.cap] 34)).heap.size (wa.alloc (.cells #[.int .u8 d.op, .int .i64 d.A, .int .i64 d.B, .slice d.o d.n d.cap] 34)) wb) : ROut w (wb.alloc (.cells #[.int .i64 kk, .slice (some ⟨wa.heap.size, 0, none⟩) 1 1] 46)) (.returned (.pointer (some ⟨wb.heap.size, 0, none⟩))) (some (k, [d])) := by
  subst hk
  refine ROut.put (w := w) (wa := wb) ((b.alloc b.size _).trans (b2.mono (by have := b.size; simp; omega))) k (some ⟨wa.heap.size, 0, none⟩) 1 [d] ((ld_one wa d (hd.below b)).below b2) (by simp) (by omega)
theorem rule5 (o : Option Addr) (cap : Nat) (L : List InsD) (i : Nat) (w : World) (h : LD w o L) (hL : Fine L) (hi : i + 1 < L.length) (hF : FA w) :
    Calls Tryz.prog 51 #[.slice o L.length cap, .int .i64 (i : Int)] w fun r w' => ROut w w' r (chg5 (matchOf L).2.1 i (L[i]!) (L[i+1]!)) := by
  have hn := (nChk_ok L hL.chk).1
  have hxo := h.at_ok i (by omega)
  have hy : L[i+1]! = L[i+1] := getElem!_pos L (i+1) hi
  have oy := opAt_get L (i+1) hi
  have HS : Hid ((L[i+1]!).op ≠ 11 → (L[i+1]!).op ≠ 5 → sizeE (matchOf L).2.1 (i + 1) ≤ 201 ∧ ∀ W, Below w.heap.size w W → Calls Tryz.prog 79 #[.slice o L.length cap, .int .i64 ((i : Int) + 1)] W fun r w' => r = .returned (.int .i64 (sizeE (matchOf L).2.1 (i + 1) : Nat)) ∧ Below W.heap.size W w') := fun h1 h2 => by
    have he := ends_at hL (i + 1) hi (by rw [oy, ← hy]; exact h2) (by rw [oy, ← hy]; exact h1)
    refine ⟨by have := sizeE_le _ _ _ he; omega, fun W bb => ?_⟩
    exact fsize o cap L (i + 1) W hL.chk hi he (h.below bb) (hF.under bb)
  obtain ⟨b, f, rfl, hb, hx4, hy4⟩ := h.two i hi
  have hi0 : (0 : Int) ≤ (i : Int) := by omega
  have hi1 : (i : Int) < (L.length : Int) := by omega
  have hj0 : (0 : Int) ≤ (i : Int) + 1 := by omega
  have hj1 : (i : Int) + 1 < (L.length : Int) := by omega
  have hw1 : IntKind.i64.wrap ((i : Int) + 1) = (i : Int) + 1 := by rw [IntKind.wrap_i64]; omega
  unfold chg5
  generalize sizeE (matchOf L).2.1 (i + 1) = Z at *
  clear hy oy
  generalize L.length = n at *
  generalize L[i]! = x at *
  generalize L[i+1]! = y at *
  clear h hL hF
  have HXO : Hid (x.ok w) := hxo
  have HRX : Hid (∀ wa kk, Below w.heap.size w wa → kk = ((1 + Z : Nat) : Int) → _) := fun wa kk bb hk => rout_oneX bb (1 + Z) kk hk x hxo
  have HRY : Hid (∀ wa wb kk, Below w.heap.size w wa → kk = ((1 + Z : Nat) : Int) → _ → _) := fun wa wb kk bb hk b2 => rout_oneY (wb := wb) bb (1 + Z) kk hk x hxo b2
  obtain ⟨op, A, B, xo, xn, xc, xs⟩ := x
  obtain ⟨op', A', B', yo, yn, yc, ys⟩ := y
  simp only at *
  have HC : Hid (∀ W, Below w.heap.size w W → (W.cell? ⟨b, f + i * 4, none⟩ = some (.int .u8 op) ∧ W.cell? ⟨b, f + i * 4 + 1, none⟩ = some (.int .i64 A) ∧ W.cell? ⟨b, f + i * 4 + 2, none⟩ = some (.int .i64 B) ∧ W.cell? ⟨b, f + i * 4 + 3, none⟩ = some (.slice xo xn xc))) := fun W bb => ⟨(bb.cell (p := ⟨b, _, none⟩) hb).trans hx4.1, (bb.cell (p := ⟨b, _, none⟩) hb).trans hx4.2.1, (bb.cell (p := ⟨b, _, none⟩) hb).trans hx4.2.2.1, (bb.cell (p := ⟨b, _, none⟩) hb).trans hx4.2.2.2⟩
  obtain ⟨x0, x1, x2, x3⟩ := hx4
  have y0 := hy4.1
  clear hxo hy4
  by_cases hx : op = 12 ∨ op = 14 ∨ op = 15 ∨ op = 0
  · by_cases h11 : op' = 11
    · rw [if_neg (by omega)]
      subst h11
      clear HS HRX HRY
      rcases hx with rfl | rfl | rfl | rfl
      all_goals
        go_enter Tryz.func51, Tryz.ntmps51
        go_wp2
        go_ret
        exact ROut.none (Below.refl _ _)
    by_cases h5 : op' = 5
    · rw [if_neg (by omega)]
      subst h5
      clear HS HRX HRY
      rcases hx with rfl | rfl | rfl | rfl
      all_goals
        go_enter Tryz.func51, Tryz.ntmps51
        go_wp2
        go_ret
        exact ROut.none (Below.refl _ _)
    rw [if_pos ⟨hx, h11, h5⟩]
    obtain ⟨hZ, hs⟩ := HS.out h11 h5
    have HSZ : Hid (type_of% hs) := hs
    have c11 : (op' != 11) = true := by simp [h11]
    have c5 : (op' != 5) = true := by simp [h5]
    have hwz : IntKind.i64.wrap (1 + (Z : Int)) = 1 + (Z : Int) := by rw [IntKind.wrap_i64]; omega
    have hop : (op == 12) = true ∨ ((op == 12) = false ∧ (op == 14) = true) ∨ ((op == 12) = false ∧ (op == 14) = false ∧ (op == 15) = true) ∨ ((op == 12) = false ∧ (op == 14) = false ∧ (op == 15) = false ∧ (op == 0) = true) := by
      simp only [beq_iff_eq, beq_eq_false_iff_ne]
      omega
    clear hs HS h11 h5 hx
    rcases hop with e1 | ⟨e1, e2⟩ | ⟨e1, e2, e3⟩ | ⟨e1, e2, e3, e4⟩
    all_goals
      go_enter Tryz.func51, Tryz.ntmps51
      go_wp2_with fail
      go_region_held3 (fun w' => w'.cell? ⟨b, f + i * 4, none⟩ = some (.int .u8 op) ∧ w'.cell? ⟨b, f + i * 4 + 1, none⟩ = some (.int .i64 A) ∧ w'.cell? ⟨b, f + i * 4 + 2, none⟩ = some (.int .i64 B) ∧ w'.cell? ⟨b, f + i * 4 + 3, none⟩ = some (.slice xo xn xc)) (first | (exact HC.out _ fch) | go_keep) ((first | (go_at_call 79; refine (HSZ.out _ fch).mono ?_; rintro r w4 ⟨rfl, b4⟩; have HB4 : Hid (Below w.heap.size w w4) := Below.trans fch (b4.mono (by simp only [World.size_drew, World.size_alloc]; omega)); have hs4 := HB4.out.size; have HC4 : Hid (type_of% b4) := b4; clear b4) | (go_at_call 73; refine (fbecomes _ _ _ _ _).mono ?_; rintro r w5 ⟨rfl, rfl⟩)))
      all_goals
        go_wp2
        go_ret
        first | exact HRX.out _ _ fch (by omega) | exact HRY.out _ _ _ fch (by omega) ((Below.refl _ _).drew.trans (HC4.out.mono (by simp)))
  · rw [if_neg (by omega)]
    have c1 : (op == 12) = false := by rw [beq_eq_false_iff_ne]; omega
    have c2 : (op == 14) = false := by rw [beq_eq_false_iff_ne]; omega
    have c3 : (op == 15) = false := by rw [beq_eq_false_iff_ne]; omega
    have c4 : (op == 0) = false := by rw [beq_eq_false_iff_ne]; omega
    clear HS HRX HRY hx
    go_enter Tryz.func51, Tryz.ntmps51
    go_wp2
    go_ret
    exact ROut.none (Below.refl _ _)
end Go.Proofs.YtkceplamaocmmaaGreatDoor
