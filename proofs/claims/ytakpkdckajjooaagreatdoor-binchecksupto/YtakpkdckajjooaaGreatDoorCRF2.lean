/-
  The document's own looks at a module's parts, each of which adds its faults.
-/
import Derived.Test.YtakpkdckajjooaaGreatDoorCRF1
import Derived.Test.YtakpkdckajjooaaGreatDoorCRNames
set_option maxHeartbeats 4000000
set_option maxRecDepth 1000000
namespace Go.Proofs.YtakpkdckajjooaaGreatDoor
set_option linter.unusedVariables false
open Go.RowKit
theorem fstE_0 (e : Int) : fstE e 0 = e := by
  unfold fstE
  split
  · rename_i h; exact h.symm
  · rfl
theorem fsays (N P n : Nat) (e x : Int) (w : World) (h : FS w N P n e) (hNP : N ≤ P) (hn : n ≤ 8796093022208) :
    Calls Tryz.prog 22 #[.pointer (some ⟨P, 0, none⟩), .int .i64 x] w (FOut N P n 1 (fstE e x) w) := by
  have HH : Hid (FS w N P n e) := h
  clear h
  by_cases h0 : x = 0
  · subst h0
    rw [fstE_0]
    go_enter Tryz.func22, Tryz.ntmps22
    go_wp2_with fail
    refine (fadd_no N P n e 0 _ HH.out).mono ?_
    rintro r w1 ⟨rfl, h1⟩
    have HR : Hid (type_of% h1) := h1
    clear h1
    go_wp2
    go_end0
    exact ⟨rfl, HR.out⟩
  · have hb : (x == 0) = false := beq_eq_false_iff_ne.2 h0
    have hne : (x != 0) = true := by rw [bne, hb]; rfl
    have HX : Hid (x ≠ 0) := h0
    clear h0
    go_enter Tryz.func22, Tryz.ntmps22
    go_wp2_with fail
    refine (fadd_yes N P n e x _ HH.out HX.out hNP hn).mono ?_
    rintro r w1 ⟨rfl, h1⟩
    have HR : Hid (type_of% h1) := h1
    clear h1
    go_wp2
    go_end0
    exact ⟨rfl, HR.out⟩
theorem findex (N P n : Nat) (e x : Int) (w : World) (h : FS w N P n e) (hNP : N ≤ P) (hn : n ≤ 8796093022208) :
    Calls Tryz.prog 21 #[.pointer (some ⟨P, 0, none⟩), .int .i64 x] w (FOut N P n 1 (fstE e (chkNum x)) w) := by
  have HH : Hid (FS w N P n e) := h
  clear h
  by_cases h0 : x < 0
  · have e1 : chkNum x = 1 := by
      unfold chkNum
      have : numOk x = false := by unfold numOk; rw [decide_eq_false (by omega)]; rfl
      rw [this]; rfl
    rw [e1]
    clear e1
    go_enter Tryz.func21, Tryz.ntmps21
    go_wp2_with fail
    refine (fadd_yes N P n e 1 _ HH.out (by decide) hNP hn).mono ?_
    rintro r w1 ⟨rfl, h1⟩
    have HR : Hid (type_of% h1) := h1
    clear h1
    go_wp2
    go_end0
    exact ⟨rfl, HR.out⟩
  · by_cases h2 : 4294967295 < x
    · have e1 : chkNum x = 1 := by
        unfold chkNum
        have : numOk x = false := by unfold numOk; rw [decide_eq_true (by omega), decide_eq_false (by omega)]; rfl
        rw [this]; rfl
      rw [e1]
      clear e1
      go_enter Tryz.func21, Tryz.ntmps21
      go_wp2_with fail
      refine (fadd_yes N P n e 1 _ HH.out (by decide) hNP hn).mono ?_
      rintro r w1 ⟨rfl, h1⟩
      have HR : Hid (type_of% h1) := h1
      clear h1
      go_wp2
      go_end0
      exact ⟨rfl, HR.out⟩
    · have e1 : chkNum x = 0 := by
        unfold chkNum
        have : numOk x = true := by unfold numOk; rw [decide_eq_true (by omega), decide_eq_true (by omega)]; rfl
        rw [this]; rfl
      rw [e1, fstE_0]
      clear e1
      go_enter Tryz.func21, Tryz.ntmps21
      go_wp2_with fail
      refine (fadd_no N P n e 1 _ HH.out).mono ?_
      rintro r w1 ⟨rfl, h1⟩
      have HR : Hid (type_of% h1) := h1
      clear h1
      go_wp2
      go_end0
      exact ⟨rfl, HR.out⟩
theorem fat (N P n : Nat) (e x : Int) (w : World) (h : FS w N P n e) (hNP : N ≤ P) (hn : n ≤ 8796093022208) :
    Calls Tryz.prog 24 #[.pointer (some ⟨P, 0, none⟩), .int .i64 x] w (FOut N P n 1 (fstE e (okE (s32 x) 1)) w) := by
  have HH : Hid (FS w N P n e) := h
  clear h
  by_cases h0 : x < -2147483648
  · have e1 : okE (s32 x) 1 = 1 := by
      skip
      have : s32 x = false := by unfold s32; rw [decide_eq_false (by omega)]; rfl
      rw [this]; rfl
    rw [e1]
    clear e1
    go_enter Tryz.func24, Tryz.ntmps24
    go_wp2_with fail
    refine (fadd_yes N P n e 1 _ HH.out (by decide) hNP hn).mono ?_
    rintro r w1 ⟨rfl, h1⟩
    have HR : Hid (type_of% h1) := h1
    clear h1
    go_wp2
    go_end0
    exact ⟨rfl, HR.out⟩
  · by_cases h2 : 2147483647 < x
    · have e1 : okE (s32 x) 1 = 1 := by
        skip
        have : s32 x = false := by unfold s32; rw [decide_eq_true (by omega), decide_eq_false (by omega)]; rfl
        rw [this]; rfl
      rw [e1]
      clear e1
      go_enter Tryz.func24, Tryz.ntmps24
      go_wp2_with fail
      refine (fadd_yes N P n e 1 _ HH.out (by decide) hNP hn).mono ?_
      rintro r w1 ⟨rfl, h1⟩
      have HR : Hid (type_of% h1) := h1
      clear h1
      go_wp2
      go_end0
      exact ⟨rfl, HR.out⟩
    · have e1 : okE (s32 x) 1 = 0 := by
        skip
        have : s32 x = true := by unfold s32; rw [decide_eq_true (by omega), decide_eq_true (by omega)]; rfl
        rw [this]; rfl
      rw [e1, fstE_0]
      clear e1
      go_enter Tryz.func24, Tryz.ntmps24
      go_wp2_with fail
      refine (fadd_no N P n e 1 _ HH.out).mono ?_
      rintro r w1 ⟨rfl, h1⟩
      have HR : Hid (type_of% h1) := h1
      clear h1
      go_wp2
      go_end0
      exact ⟨rfl, HR.out⟩
theorem refName_chk (s : ByteArray) (w : World) : Calls Tryz.prog 69 #[.string s] w fun r w' => (∃ X : ByteArray, r = .returned (.tuple #[.string X, .int .i64 (chkName (nums s))])) ∧ Below w.heap.size w w' := by
  by_cases h : 16 < s.size
  · have e : chkName (nums s) = 2 := by unfold chkName; rw [nums_length, if_pos h]
    rw [e]
    exact (refName_large s w (by omega)).mono fun r w' hh => ⟨⟨_, hh.1⟩, hh.2⟩
  · have e : chkName (nums s) = okE (Lib.validD s.data.toList) 4 := by unfold chkName; rw [nums_length, if_neg h, okName_nums]
    rw [e]
    cases hv : Lib.validD s.data.toList with
    | false => exact (refName_bad s w (by omega) hv).mono fun r w' hh => ⟨⟨_, hh.1⟩, hh.2⟩
    | true => exact (refName_ok s _ w (by omega) hv rfl).mono fun r w' hh => ⟨⟨_, hh.1⟩, hh.2⟩
theorem fname (N P n : Nat) (e : Int) (s : ByteArray) (w : World) (h : FS w N P n e) (hNP : N ≤ P) (hn : n ≤ 8796093022208) :
    Calls Tryz.prog 20 #[.pointer (some ⟨P, 0, none⟩), .string s] w (FOut N P n 1 (fstE e (chkName (nums s))) w) := by
  have HH : Hid (FS w N P n e) := h
  have HPw : Hid (P < w.heap.size) := h.lt
  have HL : Hid (type_of% (refName_chk s w)) := refName_chk s w
  clear h
  generalize chkName (nums s) = x at HL
  go_enter Tryz.func20, Tryz.ntmps20
  go_wp2_with fail
  refine HL.out.mono ?_
  rintro r w1 ⟨⟨X, rfl⟩, b1⟩
  have HB1 : Hid (Below w.heap.size w w1) := b1
  have HH1 : Hid (FS w1 N P n e) := HH.out.below b1
  clear b1 HL HH
  go_wp2_with fail
  refine (fsays N P n e x _ HH1.out hNP hn).mono ?_
  rintro r w2 ⟨rfl, n', h1, h2, h3, h4⟩
  have HR : Hid (n' ≤ n + 1 ∧ FS w2 N P n' (fstE e x) ∧ Below N w w2 ∧ Kp notF w w2) := ⟨h1, h2, (HB1.out.mono (by have := HPw.out; omega)).trans h3, (Kp.below _ HB1.out).trans h4⟩
  clear h1 h2 h3 h4
  go_wp2
  go_end0
  exact ⟨rfl, n', HR.out⟩
theorem ffirst (w : World) (N n cap : Nat) (o : Option Addr) (es : List Int) (hl : es.length = n) (ho : w.ownsRow N 31 1 (.slice o n cap) n (es.map (Value.int .i64))) (hn : n ≤ 8796093022208) :
    Calls Tryz.prog 25 #[.slice o n cap] w fun r w' => r = .returned (.int .i64 (es.headD 0)) ∧ w' = w := by
  cases es with
  | nil =>
    have h0 : n = 0 := hl.symm
    subst h0
    go_enter Tryz.func25, Tryz.ntmps25
    go_wp2
    go_ret
    exact ⟨rfl, rfl⟩
  | cons x l =>
    have hpos : 0 < n := by rw [← hl]; simp
    have hx : ∃ b f, o = some ⟨b, f, none⟩ ∧ w.cell? ⟨b, f, none⟩ = some (.int .i64 x) := by
      have hr : LR w N 31 1 (fun y => [Value.int .i64 y]) (fun _ _ => True) o n cap (x :: l) := ⟨by rw [show (x :: l).flatMap (fun y => [Value.int .i64 y]) = (x :: l).map (Value.int .i64) from (List.map_eq_flatMap).symm]; exact ho, hl, fun _ _ => trivial⟩
      rcases (hr.rows (fun _ => rfl)).at' with h0 | ⟨b, f, h1, _, h3⟩
      · cases h0
      · have := h3 0 (by simp) 0 (by omega)
        exact ⟨b, f, h1, by simpa using this⟩
    have hcap : n ≤ cap := by
      have hr : LR w N 31 1 (fun y => [Value.int .i64 y]) (fun _ _ => True) o n cap (x :: l) := ⟨by rw [show (x :: l).flatMap (fun y => [Value.int .i64 y]) = (x :: l).map (Value.int .i64) from (List.map_eq_flatMap).symm]; exact ho, hl, fun _ _ => trivial⟩
      exact hr.capm.1
    obtain ⟨b, f, rfl, hcx⟩ := hx
    have hb0 : ((n : Int) == 0) = false := by rw [beq_eq_false_iff_ne]; omega
    have hki1 : (0 : Int) < (n : Int) := by omega
    clear ho hl
    go_enter Tryz.func25, Tryz.ntmps25
    go_wp2
    go_ret
    exact ⟨rfl, rfl⟩
theorem fkindsG (N P n : Nat) (e most : Int) (hm0 : 0 ≤ most) (hm1 : most ≤ 1000) (o : Option Addr) (k cap : Nat) (xs : List Int) (w : World) (h : FS w N P n e) (hNP : N ≤ P)
    (l1 : xs.length = k) (r1 : xs = [] ∨ ∃ b f, o = some ⟨b, f, none⟩ ∧ ∀ w', Below N w w' → Kp notF w w' → ∀ i (h : i < xs.length), w'.cell? ⟨b, f + i, none⟩ = some (.int .u8 xs[i])) (hk : k ≤ cap) (hcap : cap ≤ 9223372036854775807) (hn : n + k + 1 ≤ 8796093022208) :
    Calls Tryz.prog 19 #[.pointer (some ⟨P, 0, none⟩), .slice o k cap, .int .i64 most] w (FOut N P n (k + 1) (fstE e (chkL most chkKind xs)) w) := by
  have HH : Hid (FS w N P n e) := h
  have HL : Hid (xs.length = k) := l1
  have HA : Hid (∀ w1, FS w1 N P n e → Calls Tryz.prog 18 #[.pointer (some ⟨P, 0, none⟩), .bool (decide (most < (k : Int))), .int .i64 2] w1 (FOut N P n 1 (fstE e (okE (decide ((k : Int) ≤ most)) 2)) w1)) := fun w1 h1 => by
    have := fadd N P n e 2 (decide (most < (k : Int))) w1 h1 (fun _ => by decide) hNP (by omega)
    have e1 : (!decide (most < (k : Int))) = decide ((k : Int) ≤ most) := by
      by_cases hc : most < (k : Int)
      · rw [decide_eq_true hc, decide_eq_false (by omega)]; rfl
      · rw [decide_eq_false hc, decide_eq_true (by omega)]; rfl
    rw [e1] at this
    exact this
  have HC : Hid (∀ e', fstE (fstE e (okE (decide ((k : Int) ≤ most)) 2)) e' = fstE e (fstE (okE (decide ((k : Int) ≤ most)) 2) e')) := fun e' => fstE_assoc _ _ _
  have HD : Hid (fstE e (chkL most chkKind xs) = fstE (fstE e (okE (decide ((k : Int) ≤ most)) 2)) (frst chkKind xs)) := by
    unfold Hid chkL
    rw [l1, fstE_assoc]
  obtain ⟨a, ha⟩ : ∃ a, a = fstE e (okE (decide ((k : Int) ≤ most)) 2) := ⟨_, rfl⟩
  rw [← ha] at HD HA
  clear HC ha h l1
  rw [HD.out]
  clear HD
  generalize hq : decide (most < (k : Int)) = q at HA
  have HQ : Hid (decide (most < (k : Int)) = q) := hq
  by_cases hz : k = 0
  · subst hz
    have hx : xs = [] := List.length_eq_zero_iff.1 HL.out
    subst hx
    have hq1 : ¬ most < ((0 : Nat) : Int) := by omega
    rw [decide_eq_false hq1] at hq
    subst hq
    have hq0 : ¬ most < 0 := by omega
    clear r1 HQ hq1
    go_enter Tryz.func19, Tryz.ntmps19
    go_wp2_with fail
    refine (HA.out _ HH.out).mono ?_
    rintro r w1 ⟨rfl, h1⟩
    have HR : Hid (type_of% h1) := h1
    clear h1 HA
    go_wp2
    go_loopw [16] (fun i wr => i = .int .i64 0 ∧ wr = w1) (fun _ _ => 0)
    case atStart => exact ⟨rfl, rfl⟩
    case round =>
      obtain ⟨rfl, rfl⟩ := hrel
      go_wp2
      go_end0
      exact ⟨rfl, by have := HR.out; rw [show frst chkKind ([] : List Int) = 0 from rfl, fstE_0]; exact this⟩
  · obtain ⟨b, f, rfl, h1⟩ := r1.resolve_left (fun e => hz (by rw [← HL.out, e]; rfl))
    have H1 : Hid (type_of% h1) := h1
    clear h1 r1
    cases q with
    | _ =>
      have hqq := HQ.out
      clear HQ
      try (have hlt : most < (k : Int) := of_decide_eq_true hqq)
      try (have hlt : ¬ most < (k : Int) := of_decide_eq_false hqq)
      clear hqq hq
      go_enter Tryz.func19, Tryz.ntmps19
      go_wp2_with fail
      refine (HA.out _ HH.out).mono ?_
      rintro r w1 ⟨rfl, n1, hn1, hf1, hb1, hk1⟩
      have HF1 : Hid (FS w1 N P n1 a) := hf1
      have HB1 : Hid (Below N w w1) := hb1
      have HK1 : Hid (Kp notF w w1) := hk1
      clear HA hf1 hb1 hk1
      go_wp2
      go_loopw [16] (fun i wr => ∃ (j n2 : Nat), i = .int .i64 j ∧ j ≤ k ∧ n2 ≤ n1 + j ∧ Hid (FS wr N P n2 (fstE a (frst chkKind (xs.take j)))) ∧ Hid (Below N w wr) ∧ Hid (Kp notF w wr)) (fun i _ => k - (intOf i).toNat)
      case atStart => exact ⟨0, n1, rfl, by omega, by omega, by unfold Hid; rw [List.take_zero, show frst chkKind ([] : List Int) = 0 from rfl, fstE_0]; exact HF1.out, HB1, HK1⟩
      case round =>
        obtain ⟨j, n2, rfl, hj, hn2, HF, HB2, HK2⟩ := hrel
        by_cases hlt2 : j < k
        · have hx : j < xs.length := by rw [HL.out]; exact hlt2
          have e1 : wr.cell? ⟨b, f + j, none⟩ = some (.int .u8 xs[j]) := H1.out wr HB2.out HK2.out j hx
          have HT : Hid (fstE a (frst chkKind (xs.take (j + 1))) = fstE (fstE a (frst chkKind (xs.take j))) (chkKind xs[j])) := by
            unfold Hid
            rw [frst_snoc chkKind xs j hx, fstE_assoc]
          generalize xs[j] = x at e1 HT
          have hki0 : (0 : Int) ≤ (j : Int) := by omega
          have hki1 : (j : Int) < (k : Int) := by omega
          have hn3 : n2 ≤ 8796093022208 := by omega
          have HAD : Hid (∀ b, isK x = !b → Calls Tryz.prog 18 #[.pointer (some ⟨P, 0, none⟩), .bool b, .int .i64 1] wr (FOut N P n2 1 (fstE a (frst chkKind (xs.take (j + 1)))) wr)) := fun b hb => by
            have := fadd N P n2 _ 1 b wr HF.out (fun _ => by decide) hNP hn3
            unfold Hid at HT
            rw [HT]
            unfold chkKind
            rw [hb]
            exact this
          clear HT hx
          by_cases hx6 : x = 126
          · have hb1 : (x == 126) = true := by rw [hx6]; rfl
            have hb2 : (x != 126) = false := by rw [bne, hb1]; rfl
            have HIK : Hid (isK x = !false) := by unfold Hid isK; rw [hb1]; simp
            clear hx6
            go_wp2_with fail
            refine (HAD.out false HIK.out).mono ?_
            rintro r w3 ⟨rfl, n3, g1, g2, g3, g4⟩
            have HF3 : Hid (FS w3 N P n3 (fstE a (frst chkKind (xs.take (j + 1))))) := g2
            have HB3 : Hid (Below N w w3) := HB2.out.trans g3
            have HK3 : Hid (Kp notF w w3) := HK2.out.trans g4
            clear g2 g3 g4 HAD HIK
            go_wp2
            go_roundw
            case rel => exact ⟨j + 1, n3, by go_num, by omega, by omega, HF3, HB3, HK3⟩
            case measure => simp [intOf]; omega
          · have hb1 : (x == 126) = false := beq_eq_false_iff_ne.2 hx6
            have hb2 : (x != 126) = true := by rw [bne, hb1]; rfl
            by_cases hx7 : x = 127
            · have hb3 : (x == 127) = true := by rw [hx7]; rfl
              have hb4 : (x != 127) = false := by rw [bne, hb3]; rfl
              have HIK : Hid (isK x = !false) := by unfold Hid isK; rw [hb3]; rfl
              clear hx6 hx7
              go_wp2_with fail
              refine (HAD.out false HIK.out).mono ?_
              rintro r w3 ⟨rfl, n3, g1, g2, g3, g4⟩
              have HF3 : Hid (FS w3 N P n3 (fstE a (frst chkKind (xs.take (j + 1))))) := g2
              have HB3 : Hid (Below N w w3) := HB2.out.trans g3
              have HK3 : Hid (Kp notF w w3) := HK2.out.trans g4
              clear g2 g3 g4 HAD HIK
              go_wp2
              go_roundw
              case rel => exact ⟨j + 1, n3, by go_num, by omega, by omega, HF3, HB3, HK3⟩
              case measure => simp [intOf]; omega
            · have hb3 : (x == 127) = false := beq_eq_false_iff_ne.2 hx7
              have hb4 : (x != 127) = true := by rw [bne, hb3]; rfl
              have HIK : Hid (isK x = !true) := by unfold Hid isK; rw [hb3, hb1]; rfl
              clear hx6 hx7
              go_wp2_with fail
              refine (HAD.out true HIK.out).mono ?_
              rintro r w3 ⟨rfl, n3, g1, g2, g3, g4⟩
              have HF3 : Hid (FS w3 N P n3 (fstE a (frst chkKind (xs.take (j + 1))))) := g2
              have HB3 : Hid (Below N w w3) := HB2.out.trans g3
              have HK3 : Hid (Kp notF w w3) := HK2.out.trans g4
              clear g2 g3 g4 HAD HIK
              go_wp2
              go_roundw
              case rel => exact ⟨j + 1, n3, by go_num, by omega, by omega, HF3, HB3, HK3⟩
              case measure => simp [intOf]; omega
        · have HD : Hid (FS wr N P n2 (fstE a (frst chkKind xs))) := by
            have h := HF.out
            rw [List.take_of_length_le (by rw [HL.out]; omega)] at h
            exact h
          clear HF
          go_wp2
          go_end0
          exact ⟨rfl, n2, by omega, HD.out, HB2.out, HK2.out⟩
end Go.Proofs.YtakpkdckajjooaaGreatDoor
