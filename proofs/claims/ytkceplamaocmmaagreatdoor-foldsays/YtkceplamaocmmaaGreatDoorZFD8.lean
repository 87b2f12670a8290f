/-
  Folding: slices.Concat of lists of instructions.
-/
import Derived.Test.YtkceplamaocmmaaGreatDoorZPO
import Derived.Test.YtkceplamaocmmaaGreatDoorZPU
import Derived.Lib.AppendZeros
import Derived.Deep.AppendLies
import Derived.Laws.AppendOwnNone
import Derived.Deep.Upon
set_option maxHeartbeats 4000000
set_option maxRecDepth 1000000
namespace Go.Proofs.YtkceplamaocmmaaGreatDoor
open Go.RowKit
set_option linter.unusedVariables false
theorem cells_len : ∀ L : List InsD, (cellsOf L).length = L.length * 4
  | [] => rfl
  | x :: L => by
    have ih := cells_len L
    unfold cellsOf at ih ⊢
    rw [List.flatMap_cons, List.length_append, ih]
    show 4 + L.length * 4 = (L.length + 1) * 4
    omega
theorem ld_cells {w : World} {o : Option Addr} {L : List InsD} (h : LD w o L) : L = [] ∨ ∃ b f, o = some ⟨b, f, none⟩ ∧ b < w.heap.size ∧ ∀ j u, (cellsOf L)[j]? = some u → w.cell? ⟨b, f + j, none⟩ = some u := by
  rcases h.2 with h0 | ⟨b, f, e, hb, hc⟩
  · exact Or.inl h0
  · refine Or.inr ⟨b, f, e, hb, fun j u hu => ?_⟩
    have hl := cells_len L
    have hj : j < L.length * 4 := by rw [← hl]; exact (List.getElem?_eq_some_iff.1 hu).1
    have hi : j / 4 < L.length := by omega
    have hr : j % 4 < 4 := by omega
    have e1 := cellsOf_at L (j / 4) (j % 4) hi hr
    rw [show j / 4 * 4 + j % 4 = j by omega, hu] at e1
    obtain ⟨c0, c1, c2, c3⟩ := hc (j / 4) hi
    have e2 : ∀ r, r = j % 4 → w.cell? ⟨b, f + j, none⟩ = w.cell? ⟨b, f + j / 4 * 4 + r, none⟩ := fun r hr => by rw [show f + j / 4 * 4 + r = f + j by omega]
    rw [e1]
    have h4 : j % 4 = 0 ∨ j % 4 = 1 ∨ j % 4 = 2 ∨ j % 4 = 3 := by omega
    rcases h4 with h4 | h4 | h4 | h4
    · rw [h4, e2 0 h4.symm]; exact c0
    · rw [h4, e2 1 h4.symm]; exact c1
    · rw [h4, e2 2 h4.symm]; exact c2
    · rw [h4, e2 3 h4.symm]; exact c3
theorem cells_one (L : List InsD) : ∀ u ∈ cellsOf L, u.oneCell' = true := by
  intro u hu
  unfold cellsOf at hu
  obtain ⟨d, _, hd⟩ := List.mem_flatMap.1 hu
  simp only [InsD.cells, List.mem_cons, List.not_mem_nil, or_false] at hd
  rcases hd with rfl | rfl | rfl | rfl <;> rfl
theorem cells_cat (L M : List InsD) : cellsOf (L ++ M) = cellsOf L ++ cellsOf M := by unfold cellsOf; rw [List.flatMap_append]
theorem ld_own {w : World} {B k cap : Nat} {o : Option Addr} {L : List InsD} (h : w.ownsRow B 34 4 (.slice o k cap) k (cellsOf L)) (hk : L.length = k) (hok : ∀ d ∈ L, d.ok w) : LD w o L ∧ k ≤ cap ∧ cap ≤ maxLen := by
  refine ⟨⟨hok, ?_⟩, ?_⟩
  · rcases Nat.eq_zero_or_pos k with h0 | h0
    · left
      exact List.length_eq_zero_iff.1 (by omega)
    · right
      obtain ⟨g, c, hv, _, hg⟩ := h.form h0
      simp only [Value.slice.injEq] at hv
      obtain ⟨rfl, _, rfl⟩ := hv
      refine ⟨g, 0, rfl, hg, fun i hi => ?_⟩
      have q : ∀ r, r < 4 → w.cell? ⟨g, 0 + i * 4 + r, none⟩ = (L[i]).cells[r]? := fun r hr => by
        rw [← cellsOf_at L i r hi hr, ← h.cellAt (i * 4 + r) (by omega), Nat.zero_add]
      exact ⟨q 0 (by omega), q 1 (by omega), q 2 (by omega), q 3 (by omega)⟩
  · rcases h.2 with ⟨h1, h2⟩ | ⟨g, c, cur, h1, _, _, h2, h3, _⟩
    · simp only [Value.slice.injEq] at h1
      unfold maxLen
      omega
    · simp only [Value.slice.injEq] at h1
      omega
theorem fappend_nil {P : Program} {w : World} {ops : Array Oper} {rest : List Oper} {o : Oper} {a : Act} {Q : Exit → Act → World → Prop} (hgd : o.guard = none) (s x : Operand) (t : TypeId)
    (ho : o.op = .call { callee := .builtin .append, args := #[s, x], argTypes := #[t, t] })
    (e : TypeId) (i : TypeInfo) (ht : P.underlying t = some (.slice e)) (hi : P.info? e = some i)
    (b : Option Addr) (n cap : Nat) (hs : a.eval s = .slice b n cap) (hle : n ≤ cap) (g : Option Addr) (c : Nat) (hx : a.eval x = .slice g 0 c)
    (h : wpList P ops Q rest (a.put o.dst (.slice b n cap)) w) : wpList P ops Q (o :: rest) a w := by
  refine wpList_plain hgd fun K hK => ?_
  have hsrc : Src P i.size t (.slice g 0 c) 0 [] w := by
    cases g with
    | none => exact Src.ofNil w ht c
    | some g => exact Src.ofSlice w ht g 0 c [] (by simp) (by simp) (by simp)
  have hrun := run_append_nothing (P := P) w t t o.type e i ht hi b n cap hle (.slice g 0 c) hsrc
  unfold Oper.wp
  simp [execOp, ho, resolve, invoke, builtin, hs, hx, hrun, Result.andThen]
  exact hK _ _ h
theorem fappend_zeros {P : Program} {w : World} {ops : Array Oper} {rest : List Oper} {o : Oper} {a : Act} {Q : Exit → Act → World → Prop} (hgd : o.guard = none) (s x : Operand) (t tn : TypeId)
    (ho : o.op = .call { callee := .builtin .append, args := #[s, x], argTypes := #[t, tn] })
    (e : TypeId) (i : TypeInfo) (z : Value) (kn : IntKind) (ht : P.underlying t = some (.slice e)) (htn : P.underlying tn = some (.int kn)) (hi : P.info? e = some i) (hz : i.zero = some z) (hzs : z.cells.size = i.size)
    (n : Nat) (hs : a.eval s = .slice none 0 0) (hx : a.eval x = .int .i64 (n : Int)) (h0 : 0 < n) (hsz : 0 < i.size) (h63 : n ≤ 1000000) (h48 : i.bytes ≤ 1000)
    (h : ∀ cap w', n ≤ cap → w'.ownsRow w.heap.size e i.size (.slice (some ⟨w.heap.size, 0, none⟩) 0 cap) 0 [] → Below w.heap.size w w' → cap ≤ maxLen → wpList P ops Q rest (a.put o.dst (.slice (some ⟨w.heap.size, 0, none⟩) n cap)) w') : wpList P ops Q (o :: rest) a w := by
  refine wpList_plain hgd fun K hK => ?_
  have hb : n * i.bytes ≤ 1000000 * 1000 := Nat.mul_le_mul h63 h48
  have hrun := Lib.run_append_nil_zeros (P := P) w t tn o.type e i z .i64 kn ht htn hi hz n h0 hsz (by omega) (by omega)
  have hc : n ≤ grownCap w n 0 e := grownCap_ge w n 0 e
  have hm : grownCap w n 0 e ≤ maxLen := grownCap_le_maxLen w n 0 e (by unfold maxLen; omega)
  unfold Oper.wp
  simp [execOp, ho, resolve, invoke, builtin, hs, hx, hrun, Result.andThen]
  refine hK _ _ (h _ _ hc ?_ ?_ hm)
  · refine ⟨by simp, Or.inr ⟨w.heap.size, _, _, rfl, Nat.le_refl _, new_block _ _, Nat.zero_le _, hm, ?_, by simp⟩⟩
    rw [Array.size_append]
    simp only [Builtin.zeroCells, Array.size_map, Array.size_range, hzs]
    rw [← Nat.add_mul]
    congr 1
    omega
  · exact ((Below.refl _ _).drew).alloc (Nat.le_refl _) _
theorem fappend_ins {w : World} {ops : Array Oper} {rest : List Oper} {o : Oper} {a : Act} {Q : Exit → Act → World → Prop} (hgd : o.guard = none) (s x : Operand)
    (ho : o.op = .call { callee := .builtin .append, args := #[s, x], argTypes := #[22, 22] })
    (B : Nat) (oo : Option Addr) (n cap : Nat) (L : List InsD) (hs : a.eval s = .slice oo n cap) (hown : w.ownsRow B 34 4 (.slice oo n cap) n (cellsOf L)) (o2 : Option Addr) (k cap2 : Nat) (M : List InsD) (hx : a.eval x = .slice o2 k cap2) (hd : LD w o2 M) (hk : M.length = k) (hn : n ≤ 1000000) (hdn : k ≤ 1000000) (hB : B ≤ w.heap.size)
    (h : ∀ oo' cap' w', w'.ownsRow B 34 4 (.slice oo' (n + k) cap') (n + k) (cellsOf (L ++ M)) → Below B w w' → wpList Tryz.prog ops Q rest (a.put o.dst (.slice oo' (n + k) cap')) w') : wpList Tryz.prog ops Q (o :: rest) a w := by
  obtain ⟨i0, hi, hz0, hz1, hz2⟩ := info_parts Tryz.infoIns
  have hcap : n ≤ cap := by
    rcases hown.2 with ⟨h1, h2⟩ | ⟨g, c, cur, h1, _, _, h2, _⟩
    · omega
    · simp only [Value.slice.injEq] at h1
      omega
  rcases Nat.eq_zero_or_pos k with hz | hz
  · have hxs : M = [] := List.length_eq_zero_iff.1 (by omega)
    rw [hz] at hx
    refine fappend_nil hgd s x _ ho 34 i0 Tryz.underlying22 hi oo n cap hs hcap o2 cap2 hx ?_
    have := h oo cap w (by rw [hz, hxs, List.append_nil, Nat.add_zero]; exact hown) (Below.refl _ _)
    rw [hz, Nat.add_zero] at this
    exact this
  · rcases ld_cells hd with hx0 | ⟨b, f, h1, h2, h3⟩
    · rw [hx0] at hk
      simp at hk
      omega
    · rw [h1] at hx
      refine wpList_append_lies w hgd s x _ ho B 34 i0 (.agg #[.int .u8 0, .int .i64 0, .int .i64 0, .slice none 0 0]) 4 48 Tryz.underlying22 hi hz0 hz1 hz2 rfl (by omega) _ n _ hs hown ⟨b, f, none⟩ k cap2 (cellsOf M) hx (by rw [cells_len, hk]) (fun j u hj => ?_) (cells_one M) hz (by unfold maxLen; omega) (by omega) hB w.heap.size rfl ?_
      · have hadd : (⟨b, f, none⟩ : Addr).add j = ⟨b, f + j, none⟩ := by unfold Addr.add; split <;> simp_all
        rw [hadd]
        exact h3 j u hj
      · intro g capg w3 hown3 hgrow _ _
        exact h _ _ w3 (by rw [cells_cat]; exact hown3) ((Below.refl _ _).grown hgrow hB (fun j hj => (hown.lt j hj).1))
theorem fgrow (n : Nat) (h0 : 0 < n) (hn : n ≤ 1000000) (w : World) :
    Calls Tryz.prog 33 #[.slice none 0 0, .int .i64 (n : Int)] w fun r w' => ∃ cap, r = .returned (.slice (some ⟨w.heap.size, 0, none⟩) 0 cap) ∧ w'.ownsRow w.heap.size 34 4 (.slice (some ⟨w.heap.size, 0, none⟩) 0 cap) 0 [] ∧ Below w.heap.size w w' := by
  obtain ⟨i0, hi, hz0, hz1, hz2⟩ := info_parts Tryz.infoIns
  have hneg : decide ((n : Int) < 0) = false := decide_eq_false (by omega)
  have hpos : decide ((0 : Int) < (n : Int)) = true := decide_eq_true (by omega)
  go_enter Tryz.func33, Tryz.ntmps33
  go_wp2_with (at_builtin; refine fappend_zeros rfl _ _ 22 3 rfl 34 i0 (.agg #[.int .u8 0, .int .i64 0, .int .i64 0, .slice none 0 0]) .i64 Tryz.underlying22 Tryz.underlying3 hi hz0 (by rw [hz1]; rfl) n rfl rfl h0 (by rw [hz1]; omega) hn (by rw [hz2]; omega) ?_)
  intro cap w2 hcap hown hb hm
  have HO : Hid (type_of% hown) := hown
  have HB : Hid (type_of% hb) := hb
  unfold maxLen at hm
  clear hown hb
  go_wp2
  go_ret
  exact ⟨cap, rfl, HO.out, HB.out⟩
theorem fgrow0 (w : World) : Calls Tryz.prog 33 #[.slice none 0 0, .int .i64 0] w fun r w' => r = .returned (.slice none 0 0) ∧ w' = w := by
  go_enter Tryz.func33, Tryz.ntmps33
  go_wp2
  go_ret
  exact ⟨rfl, rfl⟩
theorem fgrow_any (n : Nat) (hn : n ≤ 1000000) (w : World) :
    Calls Tryz.prog 33 #[.slice none 0 0, .int .i64 (n : Int)] w fun r w' => ∃ (o : Option Addr) (cap : Nat), r = .returned (.slice o 0 cap) ∧ w'.ownsRow w.heap.size 34 4 (.slice o 0 cap) 0 [] ∧ Below w.heap.size w w' := by
  rcases Nat.eq_zero_or_pos n with rfl | h0
  · refine (fgrow0 w).mono ?_
    rintro r w' ⟨rfl, rfl⟩
    exact ⟨none, 0, rfl, World.ownsRow_nil _ _ _ _, Below.refl _ _⟩
  · refine (fgrow n h0 hn w).mono ?_
    rintro r w' ⟨cap, rfl, h1, h2⟩
    exact ⟨_, cap, rfl, h1, h2⟩
theorem fconcat (X m : Nat) (F : Nat → List InsD) (w : World) (hm : m ≤ 3) (hX : X < w.heap.size) (h0 : F 0 = []) (hP : ∀ j, j < m → ∃ (po : Option Addr) (pn pc : Nat) (M : List InsD), w.cell? ⟨X, j, none⟩ = some (.slice po pn pc) ∧ LD w po M ∧ M.length = pn ∧ pn ≤ 400 ∧ F (j + 1) = F j ++ M ∧ (F (j + 1)).length ≤ 1200) :
    Calls Tryz.prog 17 #[.slice (some ⟨X, 0, none⟩) m m] w fun r w' => ∃ (o : Option Addr) (cap : Nat), r = .returned (.slice o (F m).length cap) ∧ w'.ownsRow w.heap.size 34 4 (.slice o (F m).length cap) (F m).length (cellsOf (F m)) ∧ Below w.heap.size w w' := by
  have HP : Hid (type_of% hP) := hP
  have HX : Hid (X < w.heap.size) := hX
  have HF0 : Hid (F 0 = []) := h0
  have HL : Hid (∀ j, j ≤ m → (F j).length ≤ 1200) := fun j hj => by
    cases j with
    | zero => rw [h0]; simp
    | succ j => exact (hP j (by omega)).choose_spec.choose_spec.choose_spec.choose_spec.2.2.2.2.2
  clear hP h0 hX
  go_enter Tryz.func17, Tryz.ntmps17
  go_wp2
  go_loopw [3, 11] (fun sv iv wr => ∃ j k : Nat, iv = .int .i64 (j : Int) ∧ j ≤ m ∧ Hid (wr = w) ∧ sv = .int .i64 (k : Int) ∧ k ≤ 1200 ∧ Hid ((F j).length = k)) (fun _ iv _ => m - (intOf iv).toNat)
  case atStart => exact ⟨0, 0, rfl, by omega, rfl, rfl, by omega, by unfold Hid; rw [HF0.out]; rfl⟩
  case round =>
    obtain ⟨j, k, rfl, hj, HW, rfl, hk, HK⟩ := hrel
    have hw := HW.out.symm
    subst hw
    by_cases hlt : j < m
    · obtain ⟨po, pn, pc, M, hc, hld, hml, hpn, hF, hFl⟩ := HP.out j hlt
      have hng : decide ((k : Int) + (pn : Int) < 0) = false := decide_eq_false (by omega)
      have hk2 : k + pn ≤ 1200 := by rw [← hml, ← HK.out, ← List.length_append, ← hF]; exact hFl
      have HK2 : Hid ((F (j + 1)).length = k + pn) := by unfold Hid; rw [hF, List.length_append, hml, HK.out]
      clear hld hml hF hFl
      go_wp2
      go_roundw
      case rel => exact ⟨j + 1, k + pn, by go_num, by omega, trivial, by push_cast; rfl, hk2, HK2⟩
      case measure => simp [intOf]; omega
    · have hjm : j = m := by omega
      subst hjm
      clear hlt
      go_wp2_with fail
      refine (fgrow_any k (by omega) _).mono ?_
      rintro r w1 ⟨o1, c1, rfl, ho1, hb1⟩
      have HO1 : Hid (type_of% ho1) := ho1
      have HB1 : Hid (type_of% hb1) := hb1
      clear ho1 hb1
      go_wp2
      go_loopw [6, 27] (fun v iv wr => ∃ (i : Nat) (o : Option Addr) (n cap : Nat), iv = .int .i64 (i : Int) ∧ i ≤ j ∧ v = .slice o n cap ∧ n ≤ 1200 ∧ Hid ((F i).length = n) ∧ Hid (wr.ownsRow w.heap.size 34 4 (.slice o n cap) n (cellsOf (F i))) ∧ Hid (Below w.heap.size w wr)) (fun _ iv _ => j - (intOf iv).toNat)
      case atStart => exact ⟨0, o1, 0, c1, rfl, by omega, rfl, by omega, by unfold Hid; rw [HF0.out]; rfl, by unfold Hid; rw [HF0.out]; exact HO1.out, HB1⟩
      case round =>
        clear HO1 HB1
        obtain ⟨i, o, n, cap, rfl, hi, rfl, hn, HN, HO, HB⟩ := hrel
        by_cases hlt : i < j
        · obtain ⟨po, pn, pc, M, hc, hld, hml, hpn, hF, hFl⟩ := HP.out i hlt
          have hc1 := (HB.out.cell (p := ⟨X, i, none⟩) HX.out).trans hc
          have HM : Hid (LD wr po M ∧ M.length = pn) := ⟨hld.below HB.out, hml⟩
          have hk2 : n + pn ≤ 1200 := by rw [← hml, ← HN.out, ← List.length_append, ← hF]; exact hFl
          have HK2 : Hid ((F (i + 1)).length = n + pn) := by unfold Hid; rw [hF, List.length_append, hml, HN.out]
          have HF2 : Hid (F (i + 1) = F i ++ M) := hF
          clear hld hml hF hFl hc
          go_wp2_with (at_builtin; refine fappend_ins rfl _ _ rfl w.heap.size o n cap (F i) rfl HO.out po pn pc M rfl HM.out.1 HM.out.2 (by omega) (by omega) HB.out.size ?_)
          intro o2 c2 w2 ho2 hb2
          rw [← HF2.out] at ho2
          have HO2 : Hid (type_of% ho2) := ho2
          have HB2 : Hid (Below w.heap.size w w2) := HB.out.trans hb2
          clear ho2 hb2
          go_wp2
          go_roundw
          case rel => exact ⟨i + 1, o2, _, c2, by go_num, by omega, rfl, hk2, HK2, HO2, HB2⟩
          case measure => simp [intOf]; omega
        · have hij : i = j := by omega
          subst hij
          have HRR : Hid (∃ (o_1 : Option Addr) (cap_1 : Nat), Ending.returned (.slice o n cap) = Ending.returned (.slice o_1 (F i).length cap_1) ∧ wr.ownsRow w.heap.size 34 4 (.slice o_1 (F i).length cap_1) (F i).length (cellsOf (F i)) ∧ Below w.heap.size w wr) := ⟨o, cap, by rw [HN.out], by rw [HN.out]; exact HO.out, HB.out⟩
          clear hlt
          go_wp2
          go_ret
          exact HRR.out
end Go.Proofs.YtkceplamaocmmaaGreatDoor
