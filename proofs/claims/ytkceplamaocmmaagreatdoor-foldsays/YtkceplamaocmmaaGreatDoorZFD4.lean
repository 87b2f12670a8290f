/-
  Folding: consts that feed an instruction, and the const that it gives.
-/
import Derived.Test.YtkceplamaocmmaaGreatDoorZFD3
import Derived.Test.YtkceplamaocmmaaGreatDoorZPB
import Derived.BigQuiet
set_option maxHeartbeats 4000000
set_option maxRecDepth 1000000
namespace Go.Proofs.YtkceplamaocmmaaGreatDoor
open Go.RowKit
set_option linter.unusedVariables false
theorem ffeed1 (op A B k : Int) (o : Option Addr) (n cap : Nat) (w : World) :
    Calls Tryz.prog 87 #[.agg #[.int .u8 op, .int .i64 A, .int .i64 B, .slice o n cap], .int .u8 k] w fun r w' => r = .returned (.bool (op == cOf k)) ∧ Below w.heap.size w w' := by
  have hc : ∀ m, ((w.alloc (.cells #[.int .u8 op, .int .i64 A, .int .i64 B, .slice o n cap] 34)).drewN m).cell? ⟨w.heap.size, 0, none⟩ = some (.int .u8 op) := fun m => fcell (new_block w (.cells #[.int .u8 op, .int .i64 A, .int .i64 B, .slice o n cap] 34)) 0 rfl
  have hc0 := hc 0
  have b : ∀ m, Below w.heap.size w ((w.alloc (.cells #[.int .u8 op, .int .i64 A, .int .i64 B, .slice o n cap] 34)).drewN m) := fun m => ((Below.refl _ _).alloc (Nat.le_refl _) _).trans (((fdrewN _ m)).mono (by simp))
  have HB : Hid (type_of% b) := b
  have HC : Hid (type_of% hc) := hc
  have hc1 : (w.alloc (.cells #[.int .u8 op, .int .i64 A, .int .i64 B, .slice o n cap] 34)).cell? ⟨w.heap.size, 0, none⟩ = some (.int .u8 op) := fcell (new_block w (.cells #[.int .u8 op, .int .i64 A, .int .i64 B, .slice o n cap] 34)) 0 rfl
  clear b hc hc0
  have HK : Hid (∀ w, Calls Tryz.prog 88 #[.int .u8 k] w fun r w' => r = .returned (.int .u8 (cOf k)) ∧ w' = w) := fun w => fconstOf k w
  generalize cOf k = c at *
  generalize hR : (op == c) = R
  have HR : Hid (type_of% hR) := hR
  go_enter Tryz.func87, Tryz.ntmps87
  go_wp2_with (go_quiet ((go_at_call 88; exact Calls.quiet_of_same (HK.out _))))
  go_ret
  exact ⟨rfl, HB.out _⟩
def feedB (X : List InsD) (ks : List Int) : Bool := decide (X.map InsD.op = ks.map cOf)
theorem feedB_no (X : List InsD) (ks : List Int) (j : Nat) (hj : j < X.length) (h : ¬ (X[j]!).op = cOf (ks.getD j 0)) (hl : X.length = ks.length) : feedB X ks = false := by
  unfold feedB
  rw [decide_eq_false_iff_not]
  intro e
  apply h
  have h1 : (X.map InsD.op)[j]? = some (X[j]!).op := by rw [List.getElem?_map, List.getElem?_eq_getElem hj, getElem!_pos X j hj]; rfl
  have h2 : (ks.map cOf)[j]? = some (cOf (ks.getD j 0)) := by rw [List.getElem?_map, List.getElem?_eq_getElem (by omega), List.getD_eq_getElem?_getD, List.getElem?_eq_getElem (by omega)]; rfl
  rw [e, h2] at h1
  exact (Option.some.inj h1).symm
theorem feedB_yes (X : List InsD) (ks : List Int) (hl : X.length = ks.length) (h : ∀ j, j < X.length → (X[j]!).op = cOf (ks.getD j 0)) : feedB X ks = true := by
  unfold feedB
  rw [decide_eq_true_iff]
  refine List.ext_getElem (by simp; exact hl) fun j h1 h2 => ?_
  have hj : j < X.length := by simpa using h1
  have := h j hj
  rw [getElem!_pos X j hj, List.getD_eq_getElem?_getD, List.getElem?_eq_getElem (by omega)] at this
  simpa using this
theorem feedB_len (X : List InsD) (ks : List Int) (hl : X.length ≠ ks.length) : feedB X ks = false := by
  unfold feedB
  rw [decide_eq_false_iff_not]
  intro e
  have := congrArg List.length e
  simp at this
  exact hl this
theorem feqf (o o2 : Option Addr) (cap cap2 n m : Nat) (X : List InsD) (ks : List Int) (w : World) (HL : Hid (X.length = n)) (HM : Hid (ks.length = m)) (hn : n ≤ 2) (hm : m ≤ 2) (h : LD w o X) (hk : m = 0 ∨ ∃ g, o2 = some ⟨g, 0, none⟩ ∧ g < w.heap.size ∧ ∀ i, i < m → w.cell? ⟨g, i, none⟩ = some (.int .u8 (ks.getD i 0))) :
    Calls Tryz.prog 86 #[.slice o n cap, .slice o2 m cap2, .func (.func 87) #[] #[]] w fun r w' => r = .returned (.bool (feedB X ks)) ∧ Below w.heap.size w w' := by
  by_cases hnm : n = m
  · subst hnm
    have HY := feedB_yes X ks (HL.out.trans HM.out.symm)
    have HNo := fun j hj hc => feedB_no X ks j hj hc (HL.out.trans HM.out.symm)
    have HLD : Hid (LD w o X) := h
    have HK : Hid (type_of% hk) := hk
    have HF : Hid (type_of% HY) := HY
    have HG : Hid (type_of% HNo) := HNo
    generalize feedB X ks = R at *
    clear h hk HY HNo
    go_enter Tryz.func86, Tryz.ntmps86
    go_wp2
    go_loopw [17] (fun i wr => ∃ k : Nat, i = .int .i64 (k : Int) ∧ k ≤ n ∧ Hid (Below w.heap.size w wr) ∧ Hid (∀ t, t < k → (X[t]!).op = cOf (ks.getD t 0))) (fun i _ => n - (intOf i).toNat)
    case atStart => exact ⟨0, rfl, by omega, Below.refl _ _, fun t ht => by omega⟩
    case round =>
      obtain ⟨k, rfl, hkn, HB, HP⟩ := hrel
      by_cases hlt : k < n
      · have hkl : k < X.length := by rw [HL.out]; exact hlt
        obtain ⟨b, f, rfl, hbw, hcl⟩ : ∃ b f, o = some ⟨b, f, none⟩ ∧ b < w.heap.size ∧ _ := by
          rcases HLD.out.2 with h0 | h0
          · rw [h0] at hkl; simp at hkl
          · exact h0
        obtain ⟨g, rfl, hgw, hkc⟩ : ∃ g, o2 = some ⟨g, 0, none⟩ ∧ g < w.heap.size ∧ _ := by
          rcases HK.out with h0 | h0
          · omega
          · exact h0
        obtain ⟨m0, m1, m2, m3⟩ := hcl k hkl
        have e0 := (HB.out.cell (p := ⟨b, f + k * 4, none⟩) hbw).trans m0
        have e1 := (HB.out.cell (p := ⟨b, f + k * 4 + 1, none⟩) hbw).trans m1
        have e2 := (HB.out.cell (p := ⟨b, f + k * 4 + 2, none⟩) hbw).trans m2
        have e3 := (HB.out.cell (p := ⟨b, f + k * 4 + 3, none⟩) hbw).trans m3
        have q0 : ∀ W, Below w.heap.size w W → W.cell? ⟨g, k, none⟩ = some (.int .u8 (ks.getD k 0)) := fun W bb => (bb.cell (p := ⟨g, k, none⟩) hgw).trans (hkc k hlt)
        have HQ : Hid (type_of% q0) := q0
        have hx : (X[k]!) = X[k] := getElem!_pos X k hkl
        have hnx := HG.out k hkl
        rw [hx] at hnx
        have HNX : Hid (type_of% hnx) := hnx
        have HXO : Hid ((X[k]!).op = (X[k]).op) := by unfold Hid; rw [hx]
        clear m0 m1 m2 m3 hx hnx q0
        have HKV : ∃ c, c = ks.getD k 0 := ⟨_, rfl⟩
        obtain ⟨kv, hkv⟩ := HKV
        have HKV : Hid (type_of% hkv) := hkv
        rw [← hkv] at HQ HNX
        clear hkv
        generalize (X[k]).op = op at *
        generalize (X[k]).A = A at *
        generalize (X[k]).B = B at *
        generalize (X[k]).o = xo at *
        generalize (X[k]).n = xn at *
        generalize (X[k]).cap = xc at *
        have hki0 : (0 : Int) ≤ (k : Int) := by omega
        have hki1 : (k : Int) < (n : Int) := by omega
        have hsz := HB.out.size
        have b1 : Below w.heap.size w (wr.alloc (.cells #[.int .u8 op, .int .i64 A, .int .i64 B, .slice xo xn xc] 34)) := HB.out.alloc HB.out.size _
        have HB1 : Hid (type_of% b1) := b1
        have q1 := HQ.out _ b1
        have z0 := new_block wr (.cells #[.int .u8 op, .int .i64 A, .int .i64 B, .slice xo xn xc] 34)
        have z := And.intro (fcell z0 0 rfl) (And.intro (fcell z0 1 rfl) (And.intro (fcell z0 2 rfl) (fcell z0 3 rfl)))
        obtain ⟨z1, z2, z3, z4⟩ := z
        clear z0 b1 hsz
        go_wp2_with fail
        refine (ffeed1 _ _ _ _ _ _ _ _).mono ?_
        rintro r w2 ⟨rfl, b2⟩
        have HB2 : Hid (Below w.heap.size w w2) := HB1.out.trans (b2.mono HB1.out.size)
        clear b2
        by_cases hc : op = cOf kv
        · have hcb : (op == cOf kv) = true := by simp [hc]
          have HCc : Hid (op = cOf (ks.getD k 0)) := by rw [← HKV.out]; exact hc
          rw [hcb]
          clear hc
          go_wp2
          go_roundw
          case rel =>
            refine ⟨k + 1, by go_num, by omega, HB2, fun t ht => ?_⟩
            by_cases e : t = k
            · subst e
              exact HXO.out.trans HCc.out
            · exact HP.out t (by omega)
          case measure => simp [intOf]; omega
        · have hcb : (op == cOf kv) = false := by simp [hc]
          have hR := HNX.out hc
          rw [hcb]
          subst hR
          clear hc
          go_wp2
          go_ret
          exact ⟨rfl, HB2.out⟩
      · have hkn : k = n := by omega
        subst hkn
        have hR := HF.out (fun j hj => HP.out j (by rw [HL.out] at hj; exact hj))
        subst hR
        clear hlt
        go_wp2
        go_ret
        exact ⟨rfl, HB.out⟩
  · have hR := feedB_len X ks (by rw [HL.out, HM.out]; exact hnm)
    have hd : ((n : Int) == (m : Int)) = false := by rw [beq_eq_false_iff_ne]; omega
    have hd2 : ((n : Int) != (m : Int)) = true := by simp; omega
    rw [hR]
    clear h hk hnm
    go_enter Tryz.func86, Tryz.ntmps86
    go_wp2
    go_ret
    exact ⟨rfl, Below.refl _ _⟩
theorem pIn_len (op : Int) : (pIn op).length ≤ 2 := by unfold pIn; repeat' (first | split | simp)
theorem ffeed (o : Option Addr) (cap n : Nat) (X : List InsD) (op : Int) (h0 : 0 ≤ op) (h1 : op ≤ 255) (w : World) (HL : Hid (X.length = n)) (hn : n ≤ 2) (h : LD w o X) (hT : TabIn w) :
    Calls Tryz.prog 75 #[.slice o n cap, .int .u8 op] w fun r w' => r = .returned (.bool (feedB X (pIn op))) ∧ Below w.heap.size w w' := by
  have HLD : Hid (LD w o X) := h
  have HP : Hid (type_of% (plain_any op h0 h1 w hT)) := plain_any op h0 h1 w hT
  have hl := pIn_len op
  clear h hT
  obtain ⟨R, hR⟩ : ∃ R, R = feedB X (pIn op) := ⟨_, rfl⟩
  rw [← hR]
  have HR : Hid (type_of% hR) := hR
  clear hR
  go_enter Tryz.func75, Tryz.ntmps75
  go_wp2_with fail
  refine HP.out.mono ?_
  rintro r w1 ⟨v1, v2, rfl, k1, k2, b1⟩
  have HB1 : Hid (type_of% b1) := b1
  obtain ⟨o2, cap2, hv1, hk⟩ : ∃ (o2 : Option Addr) (cap2 : Nat), v1 = .slice o2 (pIn op).length cap2 ∧ ((pIn op).length = 0 ∨ ∃ g, o2 = some ⟨g, 0, none⟩ ∧ g < w1.heap.size ∧ ∀ i, i < (pIn op).length → w1.cell? ⟨g, i, none⟩ = some (.int .u8 ((pIn op).getD i 0))) := by
    rcases k1 with ⟨a1, a2⟩ | ⟨a1, g, a2, _, a3, a4⟩
    · exact ⟨none, 0, by rw [a1, a2]; rfl, Or.inl (by rw [a1]; rfl)⟩
    · exact ⟨_, _, a2, Or.inr ⟨g, rfl, a3, a4⟩⟩
  subst hv1
  clear k1 k2 b1
  have HE := feqf o o2 cap cap2 n (pIn op).length X (pIn op) w1 HL rfl hn hl (HLD.out.below HB1.out) hk
  have HE1 : Hid (type_of% HE) := HE
  clear HE hk hl
  rw [← HR.out] at HE1
  generalize (pIn op).length = m at *
  go_wp2_with fail
  refine HE1.out.mono ?_
  rintro r w2 ⟨rfl, b2⟩
  go_wp2
  go_ret
  exact ⟨rfl, HB1.out.trans (b2.mono HB1.out.size)⟩
def put4 (w : World) (R : Nat) (v0 v1 v2 v3 : Value) : World := (((w.setCell ⟨R, 0, none⟩ v0).setCell ⟨R, 1, none⟩ v1).setCell ⟨R, 2, none⟩ v2).setCell ⟨R, 3, none⟩ v3
theorem all4 {w : World} {R : Nat} {c0 c1 c2 c3 : Value} {t : TypeId} (h : w.heap[R]? = some (.cells #[c0, c1, c2, c3] t (0, 0))) : (w.cell? ⟨R, 0, none⟩ = some c0 ∧ w.cell? ⟨R, 1, none⟩ = some c1 ∧ w.cell? ⟨R, 2, none⟩ = some c2 ∧ w.cell? ⟨R, 3, none⟩ = some c3) ∧ (w.frozen? ⟨R, 0, none⟩ = false ∧ w.frozen? ⟨R, 1, none⟩ = false ∧ w.frozen? ⟨R, 2, none⟩ = false ∧ w.frozen? ⟨R, 3, none⟩ = false) := by
  simp [World.cell?, World.frozen?, h]
theorem put4_at {w : World} {R : Nat} {c0 c1 c2 c3 : Value} {t : TypeId} (h : w.heap[R]? = some (.cells #[c0, c1, c2, c3] t (0, 0))) (v0 v1 v2 v3 : Value) : (put4 w R v0 v1 v2 v3).heap[R]? = some (.cells #[v0, v1, v2, v3] t (0, 0)) := by
  simp [put4, World.setCell, Array.getElem?_modify, h]
theorem put4_below {B : Nat} {w0 w : World} {R : Nat} (h : Below B w0 w) (hR : B ≤ R) (v0 v1 v2 v3 : Value) : Below B w0 (put4 w R v0 v1 v2 v3) :=
  (((h.setCell (p := ⟨R, 0, none⟩) hR _).setCell (p := ⟨R, 1, none⟩) hR _).setCell (p := ⟨R, 2, none⟩) hR _).setCell (p := ⟨R, 3, none⟩) hR _
theorem infoI4 : (Tryz.prog.info? 34).map (·.size) = some (4 : Nat) := by kernel_rfl
def gaveD (op n : Int) : InsD := mkD (cOf ((pOut op).getD 0 0)) n
theorem fgiven (op x : Int) (h0 : 0 ≤ op) (h1 : op ≤ 255) (hp : 0 < (pOut op).length) (w : World) (h : FA w) :
    Calls Tryz.prog 77 #[.int .u8 op, .int .i64 x] w fun r w' => r = .returned (.agg #[.int .u8 (cOf ((pOut op).getD 0 0)), .int .i64 x, .int .i64 0, .slice none 0 0]) ∧ Below w.heap.size w w' := by
  have b0 : Below w.heap.size w (w.alloc (.cells #[.int .u8 0, .int .i64 0, .int .i64 0, .slice none 0 0] 34)) := (Below.refl _ _).alloc (Nat.le_refl _) _
  have hr0 := new_block w (.cells #[.int .u8 0, .int .i64 0, .int .i64 0, .slice none 0 0] 34)
  have HP := plain_any op h0 h1 _ (h.under b0).tab
  have HP1 : Hid (type_of% HP) := HP
  have hz : (w.alloc (.cells #[.int .u8 0, .int .i64 0, .int .i64 0, .slice none 0 0] 34)).heap.size = w.heap.size + 1 := by simp
  have HZ : Hid (type_of% hz) := hz
  have HB0 : Hid (type_of% b0) := b0
  have HR0 : Hid (type_of% hr0) := hr0
  have HKD : Hid (∃ kd, kd = (pOut op).getD 0 0) := ⟨_, rfl⟩
  obtain ⟨kd, hkd⟩ := HKD.out
  rw [← hkd]
  have HKE : Hid (type_of% hkd) := hkd
  clear h HP b0 hz hr0 hkd HKD
  go_enter Tryz.func77, Tryz.ntmps77
  go_wp2_with fail
  refine HP1.out.mono ?_
  rintro r w1 ⟨v1, v2, rfl, k1, k2, b1⟩
  obtain ⟨g, hv2, hg, hk⟩ : ∃ g, v2 = .slice (some ⟨g, 0, none⟩) (pOut op).length (pOut op).length ∧ g < w1.heap.size ∧ w1.cell? ⟨g, 0, none⟩ = some (.int .u8 kd) := by
    rw [HKE.out]
    rcases k2 with ⟨a1, a2⟩ | ⟨a1, g, a2, _, a3, a4⟩
    · rw [a1] at hp; simp at hp
    · exact ⟨g, a2, a3, a4 0 a1⟩
  subst hv2
  have hr1 : w1.heap[w.heap.size]? = _ := (b1.block w.heap.size (by rw [HZ.out]; omega)).trans HR0.out
  have HR1 : Hid (type_of% hr1) := hr1
  have HB1 : Hid (Below w.heap.size w w1) := HB0.out.trans (b1.mono HB0.out.size)
  generalize (pOut op).length = m at *
  have hm : (0 : Int) < (m : Int) := by omega
  obtain ⟨⟨hn0, hn1, hn2, hn3⟩, hf0, hf1, hf2, hf3⟩ := all4 hr1
  clear k1 k2 b1 hp hr1
  go_wp2_with (go_at_call 88; refine (fconstOf _ _).mono ?_; rintro r w2 ⟨rfl, rfl⟩)
  refine bodyPost_ret (results_cell_row rfl _ _ w.heap.size 34 #[.int .u8 (cOf kd), .int .i64 x, .int .i64 0, .slice none 0 0] (0, 0) _ rfl (put4_at HR1.out _ _ _ _) Tryz.underlying34 rfl infoI4) rfl ?_
  exact ⟨rfl, put4_below HB1.out (Nat.le_refl _) _ _ _ _⟩
end Go.Proofs.YtkceplamaocmmaaGreatDoor
