/-
  Folding, the document's own way: later.
-/
import Derived.Test.YtkceplamaocmmaaGreatDoorZPR
import Derived.Deep.Cut
import Derived.Deep.CutRange
import Derived.Deep.DeepCutAuto
set_option maxHeartbeats 8000000
set_option maxRecDepth 1000000
namespace Go.Proofs.YtkceplamaocmmaaGreatDoor
open Go.RowKit
set_option linter.unusedVariables false
def DOut (w w' : World) (r : Ending) (c : Option (Nat × List InsD)) : Prop :=
  Below w.heap.size w w' ∧ match c with
  | none => r = .returned (.tuple #[.slice none 0 0, .int .i64 0])
  | some q => 0 < q.1 ∧ ∃ (o : Option Addr) (cap : Nat), r = .returned (.tuple #[.slice o q.2.length cap, .int .i64 q.1]) ∧ LD w' o q.2 ∧ q.2.length ≤ cap ∧ cap ≤ 9223372036854775807
theorem DOut.gone {w w' : World} (b : Below w.heap.size w w') (k : Nat) (kk : Int) (hk : kk = (k : Int)) (h0 : 0 < k) : DOut w w' (.returned (.tuple #[.slice none 0 0, .int .i64 kk])) (some (k, [])) := by
  subst hk
  exact ⟨b, h0, none, 0, rfl, ⟨by simp, Or.inl rfl⟩, by simp, by omega⟩
theorem DOut.one {w wa : World} (b : Below w.heap.size w wa) (k : Nat) (kk : Int) (hk : kk = (k : Int)) (h0 : 0 < k) (d : InsD) (hd : d.ok wa) : DOut w (wa.alloc (.cells #[.int .u8 d.op, .int .i64 d.A, .int .i64 d.B, .slice d.o d.n d.cap] 34)) (.returned (.tuple #[.slice (some ⟨wa.heap.size, 0, none⟩) 1 1, .int .i64 kk])) (some (k, [d])) := by
  subst hk
  exact ⟨b.alloc b.size _, h0, _, 1, rfl, ld_one wa d hd, by simp, by omega⟩
theorem DOut.own {w wa : World} (b : Below w.heap.size w wa) (k : Nat) (kk : Int) (hk : kk = (k : Int)) (h0 : 0 < k) (o : Option Addr) (m cap : Nat) (N : List InsD) (hm : N.length = m) (hown : wa.ownsRow w.heap.size 34 4 (.slice o m cap) m (cellsOf N)) (hok : ∀ d ∈ N, d.ok wa) : DOut w wa (.returned (.tuple #[.slice o m cap, .int .i64 kk])) (some (k, N)) := by
  subst hk hm
  obtain ⟨h1, h2, h3⟩ := ld_own hown rfl hok
  exact ⟨b, h0, o, cap, rfl, h1, h2, by unfold maxLen at h3; omega⟩
theorem two_new (w : World) (c d : Array Value) (t u : TypeId) : ((w.alloc (.cells c t)).alloc (.cells d u)).heap[w.heap.size]? = some (.cells c t (0, 0)) ∧ ((w.alloc (.cells c t)).alloc (.cells d u)).heap[w.heap.size + 1]? = some (.cells d u (0, 0)) := by
  have h := new_block (w.alloc (.cells c t)) (.cells d u)
  rw [World.size_alloc] at h
  refine ⟨?_, h⟩
  rw [Below.heap_alloc _ _ _ (by simp)]
  exact new_block _ _
theorem step_fins {w : World} {ops : Array Oper} {o : Oper} {a : Act} {K : Act → World → Prop} {Q : Exit → Act → World → Prop} {E : Prop} (hgd : o.guard = none) (s x : Operand)
    (ho : o.op = .call { callee := .builtin .append, args := #[s, x], argTypes := #[22, 22] })
    (B : Nat) (oo : Option Addr) (n cap : Nat) (L : List InsD) (hs : a.eval s = .slice oo n cap) (hown : w.ownsRow B 34 4 (.slice oo n cap) n (cellsOf L)) (o2 : Option Addr) (k cap2 : Nat) (M : List InsD) (hx : a.eval x = .slice o2 k cap2) (hd : LD w o2 M) (hk : M.length = k) (hn : n ≤ 1000000) (hdn : k ≤ 1000000) (hB : B ≤ w.heap.size)
    (h : ∀ oo' cap' w', w'.ownsRow B 34 4 (.slice oo' (n + k) cap') (n + k) (cellsOf (L ++ M)) → Below B w w' → (∀ j, j < w.heap.size → some j ≠ (Value.slice oo n cap).ownBlock → w'.heap[j]? = w.heap[j]?) → K (a.put o.dst (.slice oo' (n + k) cap')) w') :
    if Region.wanted o (yielded ops a.tmps) = true then Oper.wp Tryz.prog o a w K Q else E := by
  obtain ⟨i0, hi, hz0, hz1, hz2⟩ := info_parts Tryz.infoIns
  have hcap : n ≤ cap := by
    rcases hown.2 with ⟨h1, h2⟩ | ⟨g, c, cur, h1, _, _, h2, _⟩
    · omega
    · simp only [Value.slice.injEq] at h1
      omega
  rcases Nat.eq_zero_or_pos k with hz | hz
  · have hxs : M = [] := List.length_eq_zero_iff.1 (by omega)
    rw [hz] at hx
    have hw : Region.wanted o (yielded ops a.tmps) = true := by simp [Region.wanted, hgd]
    rw [if_pos hw]
    have hsrc : Src Tryz.prog i0.size 22 (.slice o2 0 cap2) 0 [] w := by
      cases o2 with
      | none => exact Src.ofNil w Tryz.underlying22 cap2
      | some g => exact Src.ofSlice w Tryz.underlying22 g 0 cap2 [] (by simp) (by simp) (by simp)
    have hrun := run_append_nothing (P := Tryz.prog) w 22 22 o.type 34 i0 Tryz.underlying22 hi oo n cap hcap (.slice o2 0 cap2) hsrc
    unfold Oper.wp
    simp [execOp, ho, resolve, invoke, builtin, hs, hx, hrun, Result.andThen]
    have := h oo cap w (by rw [hz, hxs, List.append_nil, Nat.add_zero]; exact hown) (Below.refl _ _) (fun _ _ _ => rfl)
    rw [hz, Nat.add_zero] at this
    exact this
  · rcases ld_cells hd with hx0 | ⟨b, f, h1, h2, h3⟩
    · rw [hx0] at hk
      simp at hk
      omega
    · rw [h1] at hx
      refine step_append_lies w hgd s x _ ho B 34 i0 (.agg #[.int .u8 0, .int .i64 0, .int .i64 0, .slice none 0 0]) 4 48 Tryz.underlying22 hi hz0 hz1 hz2 rfl (by omega) _ n _ hs hown ⟨b, f, none⟩ k cap2 (cellsOf M) hx (by rw [cells_len, hk]) (fun j u hj => ?_) (cells_one M) hz (by unfold maxLen; omega) (by omega) hB w.heap.size rfl ?_
      · have hadd : (⟨b, f, none⟩ : Addr).add j = ⟨b, f + j, none⟩ := by unfold Addr.add; split <;> simp_all
        rw [hadd]
        exact h3 j u hj
      · intro g capg w3 hown3 hgrow _ _
        exact h _ _ w3 (by rw [cells_cat]; exact hown3) ((Below.refl _ _).grown hgrow hB (fun j hj => (hown.lt j hj).1)) (fun j h5 h6 => hgrow.block j h5 h6)
theorem ld_blk {w : World} {P : Nat} {d : InsD} {t : TypeId} (h : w.heap[P]? = some (.cells #[.int .u8 d.op, .int .i64 d.A, .int .i64 d.B, .slice d.o d.n d.cap] t (0, 0))) (hd : d.ok w) : LD w (some ⟨P, 0, none⟩) [d] := by
  refine ⟨fun x hx => by obtain rfl := List.mem_singleton.1 hx; exact hd, Or.inr ⟨_, _, rfl, some_lt h, fun i hi => ?_⟩⟩
  have hi : i = 0 := by simpa using hi
  subst hi
  exact ⟨fcell h 0 rfl, fcell h 1 rfl, fcell h 2 rfl, fcell h 3 rfl⟩
def ifW (Ls : List InsD) (x y : InsD) (e : Nat) (hf : Int) : List InsD := if x.A ≠ 0 then (if 0 ≤ hf then mkD 2 y.A :: sgI Ls 2 (hf.toNat + 1) ++ [Ls[e+1]!] else mkD 2 y.A :: sgI Ls 2 (e + 2)) else if 0 ≤ hf then mkD 2 y.A :: sgI Ls (hf.toNat + 2) (e + 2) else []
def laterV (Ls : List InsD) (x y : InsD) (e : Nat) (hf : Int) : Option (Nat × List InsD) := if x.op = 65 ∧ y.op = 4 then some (e + 2, ifW Ls x y e hf) else (chg8 x y).or ((chg9 x y).or (chg10 x y))
theorem rlater (b f cap n : Nat) (Ls : List InsD) (x y : InsD) (w : World) (hl : Ls.length = n) (hn2 : 2 ≤ n) (hn : n ≤ 200) (hcap : n ≤ cap) (hcm : cap ≤ 9223372036854775807) (h : LD w (some ⟨b, f, none⟩) Ls) (hx : Ls[0]! = x) (hy : Ls[1]! = y) (e : Nat) (hf : Int) (hif : x.op = 65 → y.op = 4 → upV ((Ls.drop 1).map InsD.op) 0 0 (-1) = ((e : Int), hf) ∧ 0 < e ∧ e + 2 < n ∧ (hf = -1 ∨ ∃ t : Nat, hf = (t : Int) ∧ 0 < t ∧ t < e)) :
    Calls Tryz.prog 26 #[.slice (some ⟨b, f, none⟩) n cap] w fun r w' => DOut w w' r (laterV Ls x y e hf) := by
  obtain ⟨b', f', e1, hb, ⟨x0, x1, x2, x3⟩, y0, y1, y2, y3⟩ := h.two 0 (by omega)
  cases e1
  have hxo := h.at_ok 0 (by omega)
  have hyo := h.at_ok 1 (by omega)
  rw [hx] at x0 x1 x2 x3 hxo
  rw [hy] at y0 y1 y2 y3 hyo
  rw [show f + 0 * 4 = f by omega] at x0 x1 x2 x3
  rw [show f + (0 + 1) * 4 = f + 4 by omega] at y0 y1 y2 y3
  have h0 : 0 < n := by omega
  have h1 : 1 < n := by omega
  have h1' : (1 : Int) < (n : Int) := by omega
  have HC : Hid (∀ W, Below w.heap.size w W → (W.cell? ⟨b, f, none⟩ = some (.int .u8 x.op) ∧ W.cell? ⟨b, f + 1, none⟩ = some (.int .i64 x.A) ∧ W.cell? ⟨b, f + 2, none⟩ = some (.int .i64 x.B) ∧ W.cell? ⟨b, f + 3, none⟩ = some (.slice x.o x.n x.cap)) ∧ W.cell? ⟨b, f + 4, none⟩ = some (.int .u8 y.op) ∧ W.cell? ⟨b, f + 4 + 1, none⟩ = some (.int .i64 y.A) ∧ W.cell? ⟨b, f + 4 + 2, none⟩ = some (.int .i64 y.B) ∧ W.cell? ⟨b, f + 4 + 3, none⟩ = some (.slice y.o y.n y.cap)) := fun W bb => ⟨⟨(bb.cell (p := ⟨b, _, none⟩) hb).trans x0, (bb.cell (p := ⟨b, _, none⟩) hb).trans x1, (bb.cell (p := ⟨b, _, none⟩) hb).trans x2, (bb.cell (p := ⟨b, _, none⟩) hb).trans x3⟩, (bb.cell (p := ⟨b, _, none⟩) hb).trans y0, (bb.cell (p := ⟨b, _, none⟩) hb).trans y1, (bb.cell (p := ⟨b, _, none⟩) hb).trans y2, (bb.cell (p := ⟨b, _, none⟩) hb).trans y3⟩
  have HLD : Hid (LD w (some ⟨b, f, none⟩) Ls ∧ Ls.length = n) := ⟨h, hl⟩
  have HIF : Hid (type_of% hif) := hif
  have hA := hxo.a
  have hA' := hyo.a
  have HMK : Hid (∀ W op, 0 ≤ op → op ≤ 255 → (mkD op x.A).ok W ∧ (mkD op y.A).ok W) := fun W op h0 h1 => ⟨mkD_ok W op _ h0 h1 hA, mkD_ok W op _ h0 h1 hA'⟩
  clear h hl hif hx hy hA hA' hxo hyo
  obtain ⟨V, hV⟩ : ∃ V, V = laterV Ls x y e hf := ⟨_, rfl⟩
  rw [← hV]
  unfold laterV at hV
  have HV : Hid (type_of% hV) := hV
  clear hV
  obtain ⟨op, A, B, xo, xn, xc, xs⟩ := x
  obtain ⟨op', A', B', yo, yn, yc, ys⟩ := y
  simp only at *
  go_enter Tryz.func26, Tryz.ntmps26
  go_upto_region 1 with fail
  go_cut [4, 5] from 4 to 23 (fun p q wx => ∃ X Y : Nat, p = .pointer (some ⟨X, 0, none⟩) ∧ q = .pointer (some ⟨Y, 0, none⟩) ∧ Hid (wx.heap[X]? = some (.cells #[.int .u8 op, .int .i64 A, .int .i64 B, .slice xo xn xc] 34 (0, 0))) ∧ Hid (wx.heap[Y]? = some (.cells #[.int .u8 op', .int .i64 A', .int .i64 B', .slice yo yn yc] 34 (0, 0))) ∧ Hid (Below w.heap.size w wx))
  case first =>
    go_region_held3 (fun w' => (w'.cell? ⟨b, f, none⟩ = some (.int .u8 op) ∧ w'.cell? ⟨b, f + 1, none⟩ = some (.int .i64 A) ∧ w'.cell? ⟨b, f + 2, none⟩ = some (.int .i64 B) ∧ w'.cell? ⟨b, f + 3, none⟩ = some (.slice xo xn xc)) ∧ w'.cell? ⟨b, f + 4, none⟩ = some (.int .u8 op') ∧ w'.cell? ⟨b, f + 4 + 1, none⟩ = some (.int .i64 A') ∧ w'.cell? ⟨b, f + 4 + 2, none⟩ = some (.int .i64 B') ∧ w'.cell? ⟨b, f + 4 + 3, none⟩ = some (.slice yo yn yc)) (first | (exact HC.out _ fch) | go_keep) (fail)
    all_goals
      go_wp2_with fail
      go_meet
      first
        | exact ⟨w.heap.size, w.heap.size + 1, rfl, rfl, (two_new w _ _ _ _).1, (two_new w _ _ _ _).2, fch⟩
        | exact ⟨w.heap.size + 1, w.heap.size, rfl, rfl, (two_new w _ _ _ _).2, (two_new w _ _ _ _).1, fch⟩
  case rest =>
    obtain ⟨X, Y, rfl, rfl, HX, HY, HB⟩ := hcut
    have hXb := some_lt HX.out
    have hYb := some_lt HY.out
    have HXC : Hid (∀ W, Below wc.heap.size wc W → (W.cell? ⟨X, 0, none⟩ = some (.int .u8 op) ∧ W.cell? ⟨X, 1, none⟩ = some (.int .i64 A)) ∧ W.cell? ⟨Y, 0, none⟩ = some (.int .u8 op') ∧ W.cell? ⟨Y, 1, none⟩ = some (.int .i64 A')) := fun W bb => ⟨⟨(bb.cell (p := ⟨X, 0, none⟩) hXb).trans (fcell HX.out 0 rfl), (bb.cell (p := ⟨X, 1, none⟩) hXb).trans (fcell HX.out 1 rfl)⟩, (bb.cell (p := ⟨Y, 0, none⟩) hYb).trans (fcell HY.out 0 rfl), (bb.cell (p := ⟨Y, 1, none⟩) hYb).trans (fcell HY.out 1 rfl)⟩
    obtain ⟨⟨u0, u1⟩, v0, v1⟩ := HXC.out wc (Below.refl _ _)
    have hsz := HB.out.size
    clear hXb hYb x0 x1 x2 x3 y0 y1 y2 y3
    by_cases e65 : op = 65
    · by_cases e4 : op' = 4
      · subst e65 e4
        obtain ⟨hup, he0, he2, hhf⟩ := HIF.out rfl rfl
        have hl1 := HLD.out.1.part 1 (n - 1) (by rw [HLD.out.2]; omega)
        rw [List.take_of_length_le (by rw [List.length_drop, HLD.out.2]; exact Nat.le_refl _), show f + 1 * 4 = f + 4 by omega] at hl1
        have hrup := rup_core (some ⟨b, f + 4, none⟩) (cap - 1) (n - 1) (Ls.drop 1) (by rw [List.length_drop, HLD.out.2]) (by omega) (e : Int) hf wc (hl1.below HB.out) hup
        have HUP : Hid (type_of% hrup) := hrup
        have hcap1 : ¬ cap = 1 := by omega
        have hw2 : IntKind.i64.wrap ((e : Int) + 2) = (e : Int) + 2 := by rw [IntKind.wrap_i64]; omega
        have hq1 : (1 : Int) ≤ (e : Int) + 2 := by omega
        have hq2 : (e : Int) + 2 ≤ (cap : Int) := by omega
        have hq3 : (0 : Int) ≤ (e : Int) + 2 := by omega
        have hq4 : (1 : Int) ≤ (n : Int) := by omega
        have hq5 : (n : Int) ≤ (cap : Int) := by omega
        clear hrup hl1 hup HIF
        go_wp2_with fail
        refine HUP.out.mono ?_
        rintro r w2 ⟨rfl, b2⟩
        obtain ⟨⟨u0', u1'⟩, v0', v1'⟩ := HXC.out w2 b2
        have HB2 : Hid (Below w.heap.size w w2) := HB.out.trans (b2.mono HB.out.size)
        have hs2 := HB2.out.size
        obtain ⟨⟨p0, p1⟩, _, _⟩ := HXC.out (w2.alloc (.cells #[.int .u8 2, .int .i64 A', .int .i64 0, .slice none 0 0] 34)) (b2.alloc b2.size _)
        have HR : Hid (World.ownsRow (w2.alloc (.cells #[.int .u8 2, .int .i64 A', .int .i64 0, .slice none 0 0] 34)) w.heap.size 34 4 (.slice (some ⟨w2.heap.size, 0, none⟩) 1 1) 1 (cellsOf [mkD 2 A'])) := World.ownsRow_lit w2 #[.int .u8 2, .int .i64 A', .int .i64 0, .slice none 0 0] 1 hs2 (by unfold maxLen; omega) rfl
        have HBA : Hid (Below w.heap.size w (w2.alloc (.cells #[.int .u8 2, .int .i64 A', .int .i64 0, .slice none 0 0] 34))) := fch2
        clear HXC u0 u1 v0 v1 b2
        by_cases eA : A = 0
        · have fA : (A != 0) = false := by simp [eA]
          rcases hhf with rfl | ⟨t, rfl, ht0, ht1⟩
          · go_wp2
            go_ret2
            rw [HV.out, if_pos (by simp)]
            unfold ifW
            rw [if_neg (by simpa using eA), if_neg (by omega)]
            exact DOut.gone fch2 (e + 2) _ rfl (by omega)
          · have fT : decide ((0 : Int) ≤ (t : Int)) = true := decide_eq_true (by omega)
            have hM := (HLD.out.1.part (t + 2) (e - t) (by rw [HLD.out.2]; omega)).below HBA.out
            rw [show f + (t + 2) * 4 = f + 4 + (t + 1) * 4 by omega] at hM
            have HM : Hid (LD (w2.alloc (.cells #[.int .u8 2, .int .i64 A', .int .i64 0, .slice none 0 0] 34)) (some ⟨b, f + 4 + (t + 1) * 4, none⟩) (sgI Ls (t + 2) (e + 2))) := by
              unfold sgI
              rw [show e + 2 - (t + 2) = e - t by omega]
              exact hM
            have HML : Hid ((sgI Ls (t + 2) (e + 2)).length = e - t) := by unfold Hid; rw [sgI_len Ls _ _ (by rw [HLD.out.2]; omega)]; omega
            have hwt : IntKind.i64.wrap ((t : Int) + 1) = (t : Int) + 1 := by rw [IntKind.wrap_i64]; omega
            have hc2 : ¬ cap - 1 = t + 1 := by omega
            have hc3 : t + 1 ≤ e + 2 - 1 := by omega
            have hc4 : (t : Int) + 1 ≤ ((e + 2 - 1 : Nat) : Int) := by omega
            have hc5 : (0 : Int) ≤ (t : Int) + 1 := by omega
            have hc6 : ((e + 2 - 1 : Nat) : Int) ≤ ((cap - 1 : Nat) : Int) := by omega
            clear hM
            go_wp2_with (at_builtin; refine fappend_ins rfl _ _ rfl w.heap.size (some ⟨w2.heap.size, 0, none⟩) 1 1 [mkD 2 A'] rfl HR.out (some ⟨b, f + 4 + (t + 1) * 4, none⟩) (e - t) (cap - 1 - (t + 1)) (sgI Ls (t + 2) (e + 2)) rfl HM.out HML.out (by omega) (by omega) HBA.out.size ?_)
            intro o3 c3 w3 hown3 hb3
            have HB3 : Hid (Below w.heap.size w w3) := HBA.out.trans hb3
            have HOW : Hid (type_of% hown3) := hown3
            clear hown3 hb3
            go_wp2
            go_ret2
            rw [HV.out, if_pos (by simp)]
            unfold ifW
            rw [if_neg (by simpa using eA), if_pos (by omega), show ((t : Int).toNat) = t by omega]
            exact DOut.own HB3.out (e + 2) _ rfl (by omega) o3 (1 + (e - t)) c3 _ (by rw [List.length_cons, HML.out]; omega) HOW.out (fun d hd => by
              rcases List.mem_cons.1 hd with rfl | hd
              · exact (HMK.out _ 2 (by omega) (by omega)).2
              · exact (HLD.out.1.1 d (List.drop_subset _ _ (List.take_subset _ _ hd))).below HB3.out)
        · have fA : (A != 0) = true := by simp [eA]
          have hMid : ∀ j, 2 ≤ j → j ≤ e + 2 → LD (w2.alloc (.cells #[.int .u8 2, .int .i64 A', .int .i64 0, .slice none 0 0] 34)) (some ⟨b, f + 4 + 4, none⟩) (sgI Ls 2 j) ∧ (sgI Ls 2 j).length = j - 2 := fun j hj1 hj2 => by
            have := (HLD.out.1.part 2 (j - 2) (by rw [HLD.out.2]; omega)).below HBA.out
            rw [show f + 2 * 4 = f + 4 + 4 by omega] at this
            exact ⟨this, by rw [sgI_len Ls _ _ (by rw [HLD.out.2]; omega)]⟩
          have hc2 : ¬ cap - 1 = 1 := by omega
          have hc3 : (1 : Int) ≤ ((e + 2 - 1 : Nat) : Int) := by omega
          have hc6 : ((e + 2 - 1 : Nat) : Int) ≤ ((cap - 1 : Nat) : Int) := by omega
          have HMW : Hid (∀ W j, 2 ≤ j → j ≤ e + 2 → Below w.heap.size w W → LD W (some ⟨b, f + 4 + 4, none⟩) (sgI Ls 2 j)) := fun W j hj1 hj2 bb => by
            have := (HLD.out.1.part 2 (j - 2) (by rw [HLD.out.2]; omega)).below bb
            rw [show f + 2 * 4 = f + 4 + 4 by omega] at this
            exact this
          have HOKM : Hid (∀ W, Below w.heap.size w W → ∀ d ∈ Ls, d.ok W) := fun W bb d hd => (HLD.out.1.1 d hd).below bb
          rcases hhf with rfl | ⟨t, rfl, ht0, ht1⟩
          · have HM : Hid (type_of% (hMid (e + 2) (by omega) (by omega))) := hMid (e + 2) (by omega) (by omega)
            clear hMid
            go_wp2_with (at_builtin; refine fappend_ins rfl _ _ rfl w.heap.size (some ⟨w2.heap.size, 0, none⟩) 1 1 [mkD 2 A'] rfl HR.out (some ⟨b, f + 4 + 4, none⟩) e (cap - 1 - 1) (sgI Ls 2 (e + 2)) rfl HM.out.1 (by rw [HM.out.2]; omega) (by omega) (by omega) HBA.out.size ?_)
            intro o3 c3 w3 hown3 hb3
            have HB3 : Hid (Below w.heap.size w w3) := HBA.out.trans hb3
            have HOW : Hid (type_of% hown3) := hown3
            clear hown3 hb3
            go_wp2
            go_ret2
            rw [HV.out, if_pos (by simp)]
            unfold ifW
            rw [if_pos (by simpa using eA), if_neg (by omega)]
            exact DOut.own HB3.out (e + 2) _ rfl (by omega) o3 (1 + e) c3 _ (by rw [List.length_cons, HM.out.2]; omega) HOW.out (fun d hd => by
              rcases List.mem_cons.1 hd with rfl | hd
              · exact (HMK.out _ 2 (by omega) (by omega)).2
              · exact HOKM.out _ HB3.out d (List.drop_subset _ _ (List.take_subset _ _ hd)))
          · have HM : Hid (type_of% (hMid (t + 1) (by omega) (by omega))) := hMid (t + 1) (by omega) (by omega)
            have fT : decide ((0 : Int) ≤ (t : Int)) = true := decide_eq_true (by omega)
            have hl1 : e + 1 < Ls.length := by rw [HLD.out.2]; omega
            have hcl : _ := (HLD.out.1.2.resolve_left (fun h0 => by rw [h0] at hl1; simp at hl1))
            obtain ⟨b1, f1, e1, hb1, hcl⟩ := hcl
            cases e1
            obtain ⟨m0, m1, m2, m3⟩ := hcl (e + 1) hl1
            rw [show f + (e + 1) * 4 = f + 4 + e * 4 by omega] at m0 m1 m2 m3
            have hgd : Ls[e+1]! = Ls[e+1] := getElem!_pos Ls (e + 1) hl1
            have hdm : Ls[e+1] ∈ Ls := List.getElem_mem hl1
            have HDV : Hid (Ls[e+1]! = Ls[e+1] ∧ Ls[e+1] ∈ Ls) := ⟨hgd, hdm⟩
            clear hcl hgd hdm hMid
            generalize Ls[e+1] = d at *
            have HE : Hid (∀ W, Below w.heap.size w W → W.cell? ⟨b, f + 4 + e * 4, none⟩ = some (.int .u8 d.op) ∧ W.cell? ⟨b, f + 4 + e * 4 + 1, none⟩ = some (.int .i64 d.A) ∧ W.cell? ⟨b, f + 4 + e * 4 + 2, none⟩ = some (.int .i64 d.B) ∧ W.cell? ⟨b, f + 4 + e * 4 + 3, none⟩ = some (.slice d.o d.n d.cap)) := fun W bb => ⟨(bb.cell (p := ⟨b, _, none⟩) hb1).trans m0, (bb.cell (p := ⟨b, _, none⟩) hb1).trans m1, (bb.cell (p := ⟨b, _, none⟩) hb1).trans m2, (bb.cell (p := ⟨b, _, none⟩) hb1).trans m3⟩
            have hi1 : e < e + 2 - 1 := by omega
            have hi2 : (e : Int) < ((e + 2 - 1 : Nat) : Int) := by omega
            have hi3 : (0 : Int) ≤ (e : Int) := by omega
            have hi4 : (1 : Int) ≤ (t : Int) := by omega
            have hi5 : (t : Int) ≤ ((cap - 1 : Nat) : Int) := by omega
            have hi6 : ¬ cap - 1 = 1 := by omega
            clear m0 m1 m2 m3
            go_wp2_with fail
            generalize hm1 : e + 2 - 1 = m1 at hc3 hc6 hi1 hi2 ⊢
            have hi7 : (t : Int) ≤ (m1 : Int) := by omega
            clear hm1
            go_region_held3 (fun w' => w'.cell? ⟨b, f + 4 + e * 4, none⟩ = some (.int .u8 d.op) ∧ w'.cell? ⟨b, f + 4 + e * 4 + 1, none⟩ = some (.int .i64 d.A) ∧ w'.cell? ⟨b, f + 4 + e * 4 + 2, none⟩ = some (.int .i64 d.B) ∧ w'.cell? ⟨b, f + 4 + e * 4 + 3, none⟩ = some (.slice d.o d.n d.cap)) (first | (exact HE.out _ fch) | go_keep)
              (first
                | (refine step_fins (by rfl) _ _ (by rfl) w.heap.size (some ⟨w2.heap.size, 0, none⟩) 1 1 [mkD 2 A'] (by rfl) (by exact HR.out) (some ⟨b, f + 4 + 4, none⟩) (t - 1) (cap - 1 - 1) (sgI Ls 2 (t + 1)) (by rfl) (HMW.out _ (t + 1) (by omega) (by omega) fch) (by rw [HM.out.2]; omega) (by omega) (by omega) (by exact HBA.out.size) ?_; intro o3 c3 w3 hown3 hb3 hg3; have HB3 : Hid (Below w.heap.size w w3) := Below.trans fch hb3; have HOW : Hid (type_of% hown3) := hown3; have hs3 := HB3.out.size; clear hown3 hb3 hg3)
                | (refine step_fins (by rfl) _ _ (by rfl) w.heap.size (some ⟨w2.heap.size, 0, none⟩) 1 1 [mkD 2 A'] (by rfl) (by exact HR.out.alloc _) (some ⟨b, f + 4 + 4, none⟩) (t - 1) (cap - 1 - 1) (sgI Ls 2 (t + 1)) (by rfl) (HMW.out _ (t + 1) (by omega) (by omega) fch) (by rw [HM.out.2]; omega) (by omega) (by omega) (by simp only [World.size_alloc, World.size_drew]; omega) ?_; intro o3 c3 w3 hown3 hb3 hg3; have HB3 : Hid (Below w.heap.size w w3) := Below.trans fch hb3; have HBL : Hid (w3.heap[w2.heap.size + 1]? = some (.cells #[.int .u8 d.op, .int .i64 d.A, .int .i64 d.B, .slice d.o d.n d.cap] 34 (0, 0))) := (hg3 _ (by simp) (by simp [Value.ownBlock])).trans (two_new w2 _ _ _ _).2; have HOW : Hid (type_of% hown3) := hown3; have hs3 := HB3.out.size; clear hown3 hb3 hg3)
                | (refine step_fins (by rfl) _ _ (by rfl) w.heap.size o3 (1 + (t - 1)) c3 (mkD 2 A' :: sgI Ls 2 (t + 1)) (by rfl) (by first | exact HOW.out | exact HOW.out.alloc _) _ 1 1 [d] (by rfl) (by first | exact ld_blk HBL.out (HOKM.out _ fch d HDV.out.2) | exact ld_blk (new_block _ _) (HOKM.out _ fch d HDV.out.2)) (by rfl) (by omega) (by omega) (by first | omega | (simp only [World.size_alloc]; omega)) ?_; intro o4 c4 w4 hown4 hb4 hg4; have HB4 : Hid (Below w.heap.size w w4) := Below.trans fch hb4; have HOW4 : Hid (type_of% hown4) := hown4; clear hown4 hb4 hg4))
            all_goals
              go_wp2
              go_ret2
              rw [HV.out, if_pos (by simp)]
              unfold ifW
              rw [if_pos (by simpa using eA), if_pos (by omega), show ((t : Int).toNat) = t by omega, HDV.out.1]
              exact DOut.own HB4.out (e + 2) _ rfl (by omega) o4 (1 + (t - 1) + 1) c4 _ (by rw [List.length_append, List.length_cons, HM.out.2]; simp; omega) HOW4.out (fun d' hd => by
                rcases List.mem_append.1 hd with hd | hd
                · rcases List.mem_cons.1 hd with rfl | hd
                  · exact (HMK.out _ 2 (by omega) (by omega)).2
                  · exact HOKM.out _ HB4.out d' (List.drop_subset _ _ (List.take_subset _ _ hd))
                · obtain rfl := List.mem_singleton.1 hd
                  exact HOKM.out _ HB4.out d' HDV.out.2)
      by_cases eA : A = 0
      · have f2 : (op == 2) = false := by rw [beq_eq_false_iff_ne]; omega
        have f3 : (op == 3) = false := by rw [beq_eq_false_iff_ne]; omega
        have f34 : (op == 34) = false := by rw [beq_eq_false_iff_ne]; omega
        have f65 : (op == 65) = true := by rw [beq_iff_eq]; exact e65
        have f4 : (op' == 4) = false := by rw [beq_eq_false_iff_ne]; exact e4
        have fA : (A != 0) = false := by simp [eA]
        clear HIF HLD HC
        go_wp2
        go_ret2
        rw [HV.out, if_neg (by omega), show (chg8 _ _).or ((chg9 _ _).or (chg10 _ _)) = none from by unfold chg8 chg9 chg10; rw [if_neg (by simp only; omega), if_neg (by simp only; omega), if_neg (by simp only; omega)]; rfl]
        exact ⟨HB.out, rfl⟩
      by_cases e27 : op' = 27
      · have f2 : (op == 2) = false := by rw [beq_eq_false_iff_ne]; omega
        have f3 : (op == 3) = false := by rw [beq_eq_false_iff_ne]; omega
        have f34 : (op == 34) = false := by rw [beq_eq_false_iff_ne]; omega
        have f65 : (op == 65) = true := by rw [beq_iff_eq]; exact e65
        have f4 : (op' == 4) = false := by rw [beq_eq_false_iff_ne]; exact e4
        have fA : (A != 0) = true := by simp [eA]
        have f27 : (op' == 27) = true := by rw [beq_iff_eq]; exact e27
        clear HIF HLD HC
        go_wp2
        go_ret2
        rw [HV.out, if_neg (by omega), show (chg8 _ _).or ((chg9 _ _).or (chg10 _ _)) = some (2, [mkD 26 0]) from by unfold chg8 chg9 chg10; rw [if_neg (by simp only; omega), if_neg (by simp only; omega), if_pos (by simp only; omega)]; rfl]
        exact DOut.one HB.out 2 2 rfl (by omega) (mkD 26 0) (mkD_ok _ 26 0 (by omega) (by omega) (by omega))
      · have f2 : (op == 2) = false := by rw [beq_eq_false_iff_ne]; omega
        have f3 : (op == 3) = false := by rw [beq_eq_false_iff_ne]; omega
        have f34 : (op == 34) = false := by rw [beq_eq_false_iff_ne]; omega
        have f65 : (op == 65) = true := by rw [beq_iff_eq]; exact e65
        have f4 : (op' == 4) = false := by rw [beq_eq_false_iff_ne]; exact e4
        have fA : (A != 0) = true := by simp [eA]
        have f27 : (op' == 27) = false := by rw [beq_eq_false_iff_ne]; exact e27
        clear HIF HLD HC
        go_wp2
        go_ret2
        rw [HV.out, if_neg (by omega), show (chg8 _ _).or ((chg9 _ _).or (chg10 _ _)) = none from by unfold chg8 chg9 chg10; rw [if_neg (by simp only; omega), if_neg (by simp only; omega), if_neg (by simp only; omega)]; rfl]
        exact ⟨HB.out, rfl⟩
    have g65 : (op == 65) = false := by rw [beq_eq_false_iff_ne]; exact e65
    by_cases e2 : op = 2
    · by_cases eA : A = 64
      · by_cases e11 : op' = 11
        · have f2 : (op == 2) = true := by rw [beq_iff_eq]; exact e2
          have f34 : (op == 34) = false := by rw [beq_eq_false_iff_ne]; omega
          have fA : (A == 64) = true := by rw [beq_iff_eq]; exact eA
          have f11 : (op' == 11) = true := by rw [beq_iff_eq]; exact e11
          clear HIF HLD HC
          go_wp2
          go_ret2
          rw [HV.out, if_neg (by omega), show (chg8 _ _).or ((chg9 _ _).or (chg10 _ _)) = some (2, []) from by unfold chg8 chg9 chg10; rw [if_pos (by simp only; omega)]; rfl]
          exact DOut.gone HB.out 2 2 rfl (by omega)
        · have f2 : (op == 2) = true := by rw [beq_iff_eq]; exact e2
          have f34 : (op == 34) = false := by rw [beq_eq_false_iff_ne]; omega
          have fA : (A == 64) = true := by rw [beq_iff_eq]; exact eA
          have f11 : (op' == 11) = false := by rw [beq_eq_false_iff_ne]; exact e11
          clear HIF HLD HC
          go_wp2
          go_ret2
          rw [HV.out, if_neg (by omega), show (chg8 _ _).or ((chg9 _ _).or (chg10 _ _)) = none from by unfold chg8 chg9 chg10; rw [if_neg (by simp only; omega), if_neg (by simp only; omega), if_neg (by simp only; omega)]; rfl]
          exact ⟨HB.out, rfl⟩
      · have f2 : (op == 2) = true := by rw [beq_iff_eq]; exact e2
        have f34 : (op == 34) = false := by rw [beq_eq_false_iff_ne]; omega
        have fA : (A == 64) = false := by rw [beq_eq_false_iff_ne]; exact eA
        clear HIF HLD HC
        go_wp2
        go_ret2
        rw [HV.out, if_neg (by omega), show (chg8 _ _).or ((chg9 _ _).or (chg10 _ _)) = none from by unfold chg8 chg9 chg10; rw [if_neg (by simp only; omega), if_neg (by simp only; omega), if_neg (by simp only; omega)]; rfl]
        exact ⟨HB.out, rfl⟩
    by_cases e3 : op = 3
    · by_cases eA : A = 64
      · by_cases e11 : op' = 11
        · have f2 : (op == 2) = false := by rw [beq_eq_false_iff_ne]; omega
          have f3 : (op == 3) = true := by rw [beq_iff_eq]; exact e3
          have f34 : (op == 34) = false := by rw [beq_eq_false_iff_ne]; omega
          have fA : (A == 64) = true := by rw [beq_iff_eq]; exact eA
          have f11 : (op' == 11) = true := by rw [beq_iff_eq]; exact e11
          clear HIF HLD HC
          go_wp2
          go_ret2
          rw [HV.out, if_neg (by omega), show (chg8 _ _).or ((chg9 _ _).or (chg10 _ _)) = some (2, []) from by unfold chg8 chg9 chg10; rw [if_pos (by simp only; omega)]; rfl]
          exact DOut.gone HB.out 2 2 rfl (by omega)
        · have f2 : (op == 2) = false := by rw [beq_eq_false_iff_ne]; omega
          have f3 : (op == 3) = true := by rw [beq_iff_eq]; exact e3
          have f34 : (op == 34) = false := by rw [beq_eq_false_iff_ne]; omega
          have fA : (A == 64) = true := by rw [beq_iff_eq]; exact eA
          have f11 : (op' == 11) = false := by rw [beq_eq_false_iff_ne]; exact e11
          clear HIF HLD HC
          go_wp2
          go_ret2
          rw [HV.out, if_neg (by omega), show (chg8 _ _).or ((chg9 _ _).or (chg10 _ _)) = none from by unfold chg8 chg9 chg10; rw [if_neg (by simp only; omega), if_neg (by simp only; omega), if_neg (by simp only; omega)]; rfl]
          exact ⟨HB.out, rfl⟩
      · have f2 : (op == 2) = false := by rw [beq_eq_false_iff_ne]; omega
        have f3 : (op == 3) = true := by rw [beq_iff_eq]; exact e3
        have f34 : (op == 34) = false := by rw [beq_eq_false_iff_ne]; omega
        have fA : (A == 64) = false := by rw [beq_eq_false_iff_ne]; exact eA
        clear HIF HLD HC
        go_wp2
        go_ret2
        rw [HV.out, if_neg (by omega), show (chg8 _ _).or ((chg9 _ _).or (chg10 _ _)) = none from by unfold chg8 chg9 chg10; rw [if_neg (by simp only; omega), if_neg (by simp only; omega), if_neg (by simp only; omega)]; rfl]
        exact ⟨HB.out, rfl⟩
    have g2 : (op == 2) = false := by rw [beq_eq_false_iff_ne]; exact e2
    have g3 : (op == 3) = false := by rw [beq_eq_false_iff_ne]; exact e3
    by_cases e34 : op = 34
    · by_cases e26 : op' = 26
      · have f34 : (op == 34) = true := by rw [beq_iff_eq]; exact e34
        have f26 : (op' == 26) = true := by rw [beq_iff_eq]; exact e26
        clear HIF HLD HC
        go_wp2
        go_ret2
        rw [HV.out, if_neg (by omega), show (chg8 _ _).or ((chg9 _ _).or (chg10 _ _)) = some (2, [mkD 33 A]) from by unfold chg8 chg9 chg10; rw [if_neg (by simp only; omega), if_pos (by simp only; omega)]; rfl]
        exact DOut.one HB.out 2 2 rfl (by omega) (mkD 33 A) ((HMK.out _ 33 (by omega) (by omega)).1)
      · have f34 : (op == 34) = true := by rw [beq_iff_eq]; exact e34
        have f26 : (op' == 26) = false := by rw [beq_eq_false_iff_ne]; exact e26
        clear HIF HLD HC
        go_wp2
        go_ret2
        rw [HV.out, if_neg (by omega), show (chg8 _ _).or ((chg9 _ _).or (chg10 _ _)) = none from by unfold chg8 chg9 chg10; rw [if_neg (by simp only; omega), if_neg (by simp only; omega), if_neg (by simp only; omega)]; rfl]
        exact ⟨HB.out, rfl⟩
    · have f34 : (op == 34) = false := by rw [beq_eq_false_iff_ne]; exact e34
      clear HIF HLD HC
      go_wp2
      go_ret2
      rw [HV.out, if_neg (by omega), show (chg8 _ _).or ((chg9 _ _).or (chg10 _ _)) = none from by unfold chg8 chg9 chg10; rw [if_neg (by simp only; omega), if_neg (by simp only; omega), if_neg (by simp only; omega)]; rfl]
      exact ⟨HB.out, rfl⟩
end Go.Proofs.YtkceplamaocmmaaGreatDoor
