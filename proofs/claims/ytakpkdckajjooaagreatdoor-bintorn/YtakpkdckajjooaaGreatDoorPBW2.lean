/-
  What listText makes of a list, for the kinds of its parts.
-/
import Derived.Test.YtakpkdckajjooaaGreatDoorPBW1
set_option maxHeartbeats 4000000
set_option maxRecDepth 1000000
namespace Go.Proofs.YtakpkdckajjooaaGreatDoor
set_option linter.unusedVariables false
open Go.RowKit
theorem flat_le {α : Type} (t : α → List Int) (U : Nat) : ∀ (L : List α), (∀ a ∈ L, (t a).length ≤ U) → (L.flatMap t).length ≤ L.length * U
  | [], _ => by simp
  | a :: L, h => by
    have h1 := h a (by simp)
    have h2 := flat_le t U L fun x hx => h x (by simp [hx])
    rw [List.flatMap_cons, List.length_append, List.length_cons, Nat.add_mul]
    omega
theorem len_of_size (t : ByteArray) : ([] ++ t.data.toList).length = t.size := by rw [List.nil_append, Array.length_toList]; rfl
def grpCells (d : Nat × Int) : List Value := [.int .i64 (d.1 : Int), .int .u8 d.2]
theorem listText_sig (N : Nat) (w0 w : World) (tx : SigD → List Int) (U : Nat) (hU : U ≤ 400000) (L : List SigD) (o : Option Addr) (n cap : Nat) (hn : L.length = n) (hcap : n ≤ cap) (hmax : n ≤ 200)
    (hr : L = [] ∨ ∃ b f, o = some ⟨b, f, none⟩ ∧ b < N ∧ ∀ i (h : i < L.length) r, r < 2 → w0.cell? ⟨b, f + i * 2 + r, none⟩ = (SigD.cells L[i])[r]?)
    (hb : Below N w0 w) (hNw : N ≤ w.heap.size) (hlen : ∀ d ∈ L, (tx d).length ≤ U)
    (HLOOK : Hid (∀ d ∈ L, ∀ w', Below N w0 w' → N ≤ w'.heap.size → Calls Tryz.prog 72 #[.agg #[.slice d.i.o d.i.n d.i.cap, .slice d.r.o d.r.n d.r.cap]] w' (Txt w' (tx d)))) :
    Calls Tryz.prog 120 #[.slice o n cap, .func (.func 72) #[] #[]] w (Txt w (uB n ++ L.flatMap tx)) := by
  have HBW : Hid (Below N w0 w) := hb
  have HL : Hid (L.length = n) := hn
  have HSZ : Hid (N ≤ w.heap.size) := hNw
  have HLE : Hid (∀ d ∈ L, (tx d).length ≤ U) := hlen
  have hu := uB_len10 n (by omega)
  have HN : Hid (type_of% (numberText_any (n : Int) (by omega) (by omega) (w.alloc (.cells #[.pointer none, .slice none 0 0] 223)))) := numberText_any (n : Int) (by omega) (by omega) (w.alloc (.cells #[.pointer none, .slice none 0 0] 223))
  have HD0 : Hid (BD (w.alloc (.cells #[.pointer none, .slice none 0 0] 223)) w.heap.size w.heap.size []) := BD.new w
  rcases hr with rfl | ⟨b, f, rfl, hbN, hcells⟩
  · have hn0 : n = 0 := by rw [← hn]; rfl
    subst hn0
    clear hb hn hNw hlen
    go_enter Tryz.func120, Tryz.ntmps120
    go_wp2_with fail
    refine HN.out.mono ?_
    rintro r w1 ⟨t, rfl, ht, b1⟩
    have hz := size_of ht
    have hs1 := b1.size
    rw [World.size_alloc] at hs1
    have HT : Hid (nums t = uB 0) := ht
    have HCW := bwrite_any w.heap.size w.heap.size [] t w1 (HD0.out.under b1) (by simp at hz ⊢; omega) (by omega)
    have HCX : Hid (type_of% HCW) := HCW
    have HB1 : Hid (Below w.heap.size w w1) := ((Below.refl _ _).alloc (Nat.le_refl _) _).trans (b1.mono (by simp))
    clear HCW ht b1 HN HD0
    go_wp2_with fail
    refine HCX.out.mono ?_
    rintro r w2 ⟨rfl, hb2, b2⟩
    have HD2 : Hid (∃ l : List UInt8, nums ⟨l.toArray⟩ = uB 0 ∧ l.length ≤ 10 ∧ BD w2 w.heap.size w.heap.size l) := ⟨_, by rw [nums_list, HT.out]; rfl, Nat.le_trans (Nat.le_of_eq (len_of_size t)) (by rw [hz]; exact hu), hb2⟩
    have HB2 : Hid (Below w.heap.size w w2) := HB1.out.trans (b2.mono (Nat.le_refl _))
    clear hb2 b2 HCX HB1
    go_wp2
    go_loopw [14] (fun iv wr => iv = .int .i64 0 ∧ Hid (∃ l : List UInt8, nums ⟨l.toArray⟩ = uB 0 ∧ l.length ≤ 10 ∧ BD wr w.heap.size w.heap.size l) ∧ Hid (Below w.heap.size w wr)) (fun _ _ => 0)
    case atStart => exact ⟨rfl, HD2, HB2⟩
    case round =>
      obtain ⟨rfl, HD, HB⟩ := hrel
      obtain ⟨l, hnl, hll, hbd⟩ := HD.out
      have HNL : Hid (type_of% hnl) := hnl
      have hlt0 := hbd.lt
      have HST := bstring_any w.heap.size w.heap.size l wr hbd (by omega)
      have HSU : Hid (type_of% HST) := HST
      clear HST hbd hnl
      go_wp2_with fail
      refine HSU.out.mono ?_
      rintro r w3 ⟨rfl, b3⟩
      go_wp2
      go_ret
      exact ⟨_, rfl, by rw [HNL.out]; simp, HB.out.trans (b3.mono (Nat.le_refl _))⟩
  have HR : Hid (type_of% hcells) := hcells
  clear hb hcells hn hNw hlen
  go_enter Tryz.func120, Tryz.ntmps120
  go_wp2_with fail
  refine HN.out.mono ?_
  rintro r w1 ⟨t, rfl, ht, b1⟩
  have hz := size_of ht
  have hs1 := b1.size
  rw [World.size_alloc] at hs1
  rw [Int.toNat_natCast] at hz ht
  have HT : Hid (nums t = uB n) := ht
  have HCW := bwrite_any w.heap.size w.heap.size [] t w1 (HD0.out.under b1) (by simp; omega) (by omega)
  have HCX : Hid (type_of% HCW) := HCW
  have HB1 : Hid (Below w.heap.size w w1) := ((Below.refl _ _).alloc (Nat.le_refl _) _).trans (b1.mono (by simp))
  clear HCW ht b1 HN HD0
  go_wp2_with fail
  refine HCX.out.mono ?_
  rintro r w2 ⟨rfl, hb2, b2⟩
  have HD2 : Hid (∃ l : List UInt8, nums ⟨l.toArray⟩ = uB n ++ (L.take 0).flatMap tx ∧ BD w2 w.heap.size w.heap.size l) := ⟨_, by rw [nums_list, HT.out]; simp; rfl, hb2⟩
  have HB2 : Hid (Below w.heap.size w w2) := HB1.out.trans (b2.mono (Nat.le_refl _))
  clear hb2 b2 HCX HB1
  go_wp2
  go_loopw [14] (fun iv wr => ∃ i : Nat, iv = .int .i64 (i : Int) ∧ i ≤ n ∧ Hid (∃ l : List UInt8, nums ⟨l.toArray⟩ = uB n ++ (L.take i).flatMap tx ∧ BD wr w.heap.size w.heap.size l) ∧ Hid (Below w.heap.size w wr)) (fun iv _ => n - (intOf iv).toNat)
  case atStart => exact ⟨0, rfl, by omega, HD2, HB2⟩
  case round =>
    obtain ⟨i, rfl, hin, HD, HBX⟩ := hrel
    have HB : Hid (Below N w0 wr) := HBW.out.trans (HBX.out.mono HSZ.out)
    obtain ⟨l, hnl, hbd⟩ := HD.out
    have hll : l.length ≤ 10 + i * U := by
      rw [← nums_len', hnl, List.length_append]
      have := flat_le tx U (L.take i) fun d hd => HLE.out d (List.take_subset _ _ hd)
      rw [List.length_take] at this
      have h2 : min i L.length * U ≤ i * U := Nat.mul_le_mul_right _ (Nat.min_le_left _ _)
      omega
    have hiU : i * U ≤ 200 * 400000 := Nat.mul_le_mul (by omega) hU
    have hw1 : w.heap.size < wr.heap.size := hbd.lt
    have HNL : Hid (type_of% hnl) := hnl
    have HBD : Hid (type_of% hbd) := hbd
    clear HD hnl hbd HD2 HB2
    by_cases hlt : i < n
    · have hiL : i < L.length := by rw [HL.out]; exact hlt
      have hi0 : (0 : Int) ≤ (i : Int) := by omega
      have hi1 : (i : Int) < (n : Int) := by omega
      have HS : Hid ((L.take (i + 1)).flatMap tx = (L.take i).flatMap tx ++ tx L[i]) := by
        unfold Hid
        rw [List.take_succ_eq_append_getElem hiL, List.flatMap_append]
        simp
      have HLK : Hid (type_of% (HLOOK.out L[i] (List.getElem_mem hiL))) := HLOOK.out L[i] (List.getElem_mem hiL)
      have hdl : (tx L[i]).length ≤ U := HLE.out _ (List.getElem_mem hiL)
      have HCC : Hid (∀ r, r < 2 → wr.cell? ⟨b, f + i * 2 + r, none⟩ = (SigD.cells L[i])[r]?) := fun r hr => by
        rw [HB.out.cell (p := ⟨b, f + i * 2 + r, none⟩) hbN]
        exact HR.out i hiL r hr
      obtain ⟨d, hd⟩ : ∃ d, d = L[i] := ⟨_, rfl⟩
      rw [← hd] at HS HLK HCC hdl
      clear hd
      obtain ⟨cd, hcd⟩ : ∃ cd, cd = tx d := ⟨_, rfl⟩
      rw [← hcd] at HS HLK hdl
      clear hcd
      obtain ⟨⟨o1, n1, c1, x1⟩, ⟨o2, n2, c2, x2⟩⟩ := d
      have e0 : wr.cell? ⟨b, f + i * 2, none⟩ = some (.slice o1 n1 c1) := HCC.out 0 (by omega)
      have e1 : wr.cell? ⟨b, f + i * 2 + 1, none⟩ = some (.slice o2 n2 c2) := HCC.out 1 (by omega)
      have hs0 : (wr.alloc (.cells #[.slice none 0 0, .slice none 0 0] 50)).heap.size = wr.heap.size + 1 := by simp
      have hbn : b ≠ wr.heap.size := by
        have := HB.out.size
        have h3 := HSZ.out
        omega
      have HNW : Hid (N ≤ wr.heap.size) := by have h3 := HSZ.out; unfold Hid; omega
      have HBA : Hid (Below N w0 (wr.alloc (.cells #[.slice o1 n1 c1, .slice o2 n2 c2] 50))) := HB.out.alloc HNW.out _
      have HSW : Hid (N ≤ ((wr.alloc (.cells #[.slice o1 n1 c1, .slice o2 n2 c2] 50))).heap.size) := by
        have h4 := HNW.out
        unfold Hid
        simp
        omega
      have HXA : Hid (Below w.heap.size w (wr.alloc (.cells #[.slice o1 n1 c1, .slice o2 n2 c2] 50))) := HBX.out.alloc HBX.out.size _
      have HBDA : Hid (BD (wr.alloc (.cells #[.slice o1 n1 c1, .slice o2 n2 c2] 50)) w.heap.size w.heap.size l) := HBD.out.under ((Below.refl _ _).alloc (Nat.le_refl _) _)
      have hza : w.heap.size ≤ ((wr.alloc (.cells #[.slice o1 n1 c1, .slice o2 n2 c2] 50))).heap.size := HXA.out.size
      clear HBD
      go_wp2_with fail
      refine (HLK.out _ HBA.out HSW.out).mono ?_
      rintro r w3 ⟨tt, rfl, htt, b3⟩
      have hzt := size_of htt
      have hs3 := b3.size
      have HTT : Hid (nums tt = cd) := htt
      have HCW := bwrite_any w.heap.size w.heap.size l tt w3 (HBDA.out.under b3) (by omega) (by omega)
      have HCX : Hid (type_of% HCW) := HCW
      have HB3 : Hid (Below w.heap.size w w3) := HXA.out.trans (b3.mono hza)
      clear HCW htt b3 HBDA HXA HBA HSW HLK HCC e0 e1
      go_wp2_with fail
      refine HCX.out.mono ?_
      rintro r w4 ⟨rfl, hb4, b4⟩
      have HD4 : Hid (∃ l : List UInt8, nums ⟨l.toArray⟩ = uB n ++ (L.take (i + 1)).flatMap tx ∧ BD w4 w.heap.size w.heap.size l) := ⟨_, by rw [nums_list, HNL.out, HTT.out, HS.out, List.append_assoc], hb4⟩
      have HB4 : Hid (Below w.heap.size w w4) := HB3.out.trans (b4.mono (Nat.le_refl _))
      clear hb4 b4 HCX HB3
      go_wp2
      go_roundw
      case rel => exact ⟨i + 1, by go_num, by omega, HD4, HB4⟩
      case measure => simp [intOf]; omega
    · have HTL : Hid (L.take i = L) := List.take_of_length_le (by rw [HL.out]; omega)
      rw [HTL.out] at HNL
      have HST := bstring_any w.heap.size w.heap.size l wr HBD.out (by omega)
      have HSU : Hid (type_of% HST) := HST
      clear HST HBD HTL
      go_wp2_with fail
      refine HSU.out.mono ?_
      rintro r w3 ⟨rfl, b3⟩
      go_wp2
      go_ret
      exact ⟨_, rfl, HNL.out, HBX.out.trans (b3.mono (Nat.le_refl _))⟩
theorem listText_imp (N : Nat) (w0 w : World) (tx : NamD → List Int) (U : Nat) (hU : U ≤ 400000) (L : List NamD) (o : Option Addr) (n cap : Nat) (hn : L.length = n) (hcap : n ≤ cap) (hmax : n ≤ 200)
    (hr : L = [] ∨ ∃ b f, o = some ⟨b, f, none⟩ ∧ b < N ∧ ∀ i (h : i < L.length) r, r < 2 → w0.cell? ⟨b, f + i * 2 + r, none⟩ = (NamD.cells L[i])[r]?)
    (hb : Below N w0 w) (hNw : N ≤ w.heap.size) (hlen : ∀ d ∈ L, (tx d).length ≤ U)
    (HLOOK : Hid (∀ d ∈ L, ∀ w', Below N w0 w' → N ≤ w'.heap.size → Calls Tryz.prog 74 #[.agg #[.string d.s, .int .i64 d.n]] w' (Txt w' (tx d)))) :
    Calls Tryz.prog 124 #[.slice o n cap, .func (.func 74) #[] #[]] w (Txt w (uB n ++ L.flatMap tx)) := by
  have HBW : Hid (Below N w0 w) := hb
  have HL : Hid (L.length = n) := hn
  have HSZ : Hid (N ≤ w.heap.size) := hNw
  have HLE : Hid (∀ d ∈ L, (tx d).length ≤ U) := hlen
  have hu := uB_len10 n (by omega)
  have HN : Hid (type_of% (numberText_any (n : Int) (by omega) (by omega) (w.alloc (.cells #[.pointer none, .slice none 0 0] 223)))) := numberText_any (n : Int) (by omega) (by omega) (w.alloc (.cells #[.pointer none, .slice none 0 0] 223))
  have HD0 : Hid (BD (w.alloc (.cells #[.pointer none, .slice none 0 0] 223)) w.heap.size w.heap.size []) := BD.new w
  rcases hr with rfl | ⟨b, f, rfl, hbN, hcells⟩
  · have hn0 : n = 0 := by rw [← hn]; rfl
    subst hn0
    clear hb hn hNw hlen
    go_enter Tryz.func124, Tryz.ntmps124
    go_wp2_with fail
    refine HN.out.mono ?_
    rintro r w1 ⟨t, rfl, ht, b1⟩
    have hz := size_of ht
    have hs1 := b1.size
    rw [World.size_alloc] at hs1
    have HT : Hid (nums t = uB 0) := ht
    have HCW := bwrite_any w.heap.size w.heap.size [] t w1 (HD0.out.under b1) (by simp at hz ⊢; omega) (by omega)
    have HCX : Hid (type_of% HCW) := HCW
    have HB1 : Hid (Below w.heap.size w w1) := ((Below.refl _ _).alloc (Nat.le_refl _) _).trans (b1.mono (by simp))
    clear HCW ht b1 HN HD0
    go_wp2_with fail
    refine HCX.out.mono ?_
    rintro r w2 ⟨rfl, hb2, b2⟩
    have HD2 : Hid (∃ l : List UInt8, nums ⟨l.toArray⟩ = uB 0 ∧ l.length ≤ 10 ∧ BD w2 w.heap.size w.heap.size l) := ⟨_, by rw [nums_list, HT.out]; rfl, Nat.le_trans (Nat.le_of_eq (len_of_size t)) (by rw [hz]; exact hu), hb2⟩
    have HB2 : Hid (Below w.heap.size w w2) := HB1.out.trans (b2.mono (Nat.le_refl _))
    clear hb2 b2 HCX HB1
    go_wp2
    go_loopw [14] (fun iv wr => iv = .int .i64 0 ∧ Hid (∃ l : List UInt8, nums ⟨l.toArray⟩ = uB 0 ∧ l.length ≤ 10 ∧ BD wr w.heap.size w.heap.size l) ∧ Hid (Below w.heap.size w wr)) (fun _ _ => 0)
    case atStart => exact ⟨rfl, HD2, HB2⟩
    case round =>
      obtain ⟨rfl, HD, HB⟩ := hrel
      obtain ⟨l, hnl, hll, hbd⟩ := HD.out
      have HNL : Hid (type_of% hnl) := hnl
      have hlt0 := hbd.lt
      have HST := bstring_any w.heap.size w.heap.size l wr hbd (by omega)
      have HSU : Hid (type_of% HST) := HST
      clear HST hbd hnl
      go_wp2_with fail
      refine HSU.out.mono ?_
      rintro r w3 ⟨rfl, b3⟩
      go_wp2
      go_ret
      exact ⟨_, rfl, by rw [HNL.out]; simp, HB.out.trans (b3.mono (Nat.le_refl _))⟩
  have HR : Hid (type_of% hcells) := hcells
  clear hb hcells hn hNw hlen
  go_enter Tryz.func124, Tryz.ntmps124
  go_wp2_with fail
  refine HN.out.mono ?_
  rintro r w1 ⟨t, rfl, ht, b1⟩
  have hz := size_of ht
  have hs1 := b1.size
  rw [World.size_alloc] at hs1
  rw [Int.toNat_natCast] at hz ht
  have HT : Hid (nums t = uB n) := ht
  have HCW := bwrite_any w.heap.size w.heap.size [] t w1 (HD0.out.under b1) (by simp; omega) (by omega)
  have HCX : Hid (type_of% HCW) := HCW
  have HB1 : Hid (Below w.heap.size w w1) := ((Below.refl _ _).alloc (Nat.le_refl _) _).trans (b1.mono (by simp))
  clear HCW ht b1 HN HD0
  go_wp2_with fail
  refine HCX.out.mono ?_
  rintro r w2 ⟨rfl, hb2, b2⟩
  have HD2 : Hid (∃ l : List UInt8, nums ⟨l.toArray⟩ = uB n ++ (L.take 0).flatMap tx ∧ BD w2 w.heap.size w.heap.size l) := ⟨_, by rw [nums_list, HT.out]; simp; rfl, hb2⟩
  have HB2 : Hid (Below w.heap.size w w2) := HB1.out.trans (b2.mono (Nat.le_refl _))
  clear hb2 b2 HCX HB1
  go_wp2
  go_loopw [14] (fun iv wr => ∃ i : Nat, iv = .int .i64 (i : Int) ∧ i ≤ n ∧ Hid (∃ l : List UInt8, nums ⟨l.toArray⟩ = uB n ++ (L.take i).flatMap tx ∧ BD wr w.heap.size w.heap.size l) ∧ Hid (Below w.heap.size w wr)) (fun iv _ => n - (intOf iv).toNat)
  case atStart => exact ⟨0, rfl, by omega, HD2, HB2⟩
  case round =>
    obtain ⟨i, rfl, hin, HD, HBX⟩ := hrel
    have HB : Hid (Below N w0 wr) := HBW.out.trans (HBX.out.mono HSZ.out)
    obtain ⟨l, hnl, hbd⟩ := HD.out
    have hll : l.length ≤ 10 + i * U := by
      rw [← nums_len', hnl, List.length_append]
      have := flat_le tx U (L.take i) fun d hd => HLE.out d (List.take_subset _ _ hd)
      rw [List.length_take] at this
      have h2 : min i L.length * U ≤ i * U := Nat.mul_le_mul_right _ (Nat.min_le_left _ _)
      omega
    have hiU : i * U ≤ 200 * 400000 := Nat.mul_le_mul (by omega) hU
    have hw1 : w.heap.size < wr.heap.size := hbd.lt
    have HNL : Hid (type_of% hnl) := hnl
    have HBD : Hid (type_of% hbd) := hbd
    clear HD hnl hbd HD2 HB2
    by_cases hlt : i < n
    · have hiL : i < L.length := by rw [HL.out]; exact hlt
      have hi0 : (0 : Int) ≤ (i : Int) := by omega
      have hi1 : (i : Int) < (n : Int) := by omega
      have HS : Hid ((L.take (i + 1)).flatMap tx = (L.take i).flatMap tx ++ tx L[i]) := by
        unfold Hid
        rw [List.take_succ_eq_append_getElem hiL, List.flatMap_append]
        simp
      have HLK : Hid (type_of% (HLOOK.out L[i] (List.getElem_mem hiL))) := HLOOK.out L[i] (List.getElem_mem hiL)
      have hdl : (tx L[i]).length ≤ U := HLE.out _ (List.getElem_mem hiL)
      have HCC : Hid (∀ r, r < 2 → wr.cell? ⟨b, f + i * 2 + r, none⟩ = (NamD.cells L[i])[r]?) := fun r hr => by
        rw [HB.out.cell (p := ⟨b, f + i * 2 + r, none⟩) hbN]
        exact HR.out i hiL r hr
      obtain ⟨d, hd⟩ : ∃ d, d = L[i] := ⟨_, rfl⟩
      rw [← hd] at HS HLK HCC hdl
      clear hd
      obtain ⟨cd, hcd⟩ : ∃ cd, cd = tx d := ⟨_, rfl⟩
      rw [← hcd] at HS HLK hdl
      clear hcd
      obtain ⟨s1, n1⟩ := d
      have e0 : wr.cell? ⟨b, f + i * 2, none⟩ = some (.string s1) := HCC.out 0 (by omega)
      have e1 : wr.cell? ⟨b, f + i * 2 + 1, none⟩ = some (.int .i64 n1) := HCC.out 1 (by omega)
      have hs0 : (wr.alloc (.cells #[.string ⟨#[]⟩, .int .i64 0] 53)).heap.size = wr.heap.size + 1 := by simp
      have hbn : b ≠ wr.heap.size := by
        have := HB.out.size
        have h3 := HSZ.out
        omega
      have HNW : Hid (N ≤ wr.heap.size) := by have h3 := HSZ.out; unfold Hid; omega
      have HBA : Hid (Below N w0 (wr.alloc (.cells #[.string s1, .int .i64 n1] 53))) := HB.out.alloc HNW.out _
      have HSW : Hid (N ≤ ((wr.alloc (.cells #[.string s1, .int .i64 n1] 53))).heap.size) := by
        have h4 := HNW.out
        unfold Hid
        simp
        omega
      have HXA : Hid (Below w.heap.size w (wr.alloc (.cells #[.string s1, .int .i64 n1] 53))) := HBX.out.alloc HBX.out.size _
      have HBDA : Hid (BD (wr.alloc (.cells #[.string s1, .int .i64 n1] 53)) w.heap.size w.heap.size l) := HBD.out.under ((Below.refl _ _).alloc (Nat.le_refl _) _)
      have hza : w.heap.size ≤ ((wr.alloc (.cells #[.string s1, .int .i64 n1] 53))).heap.size := HXA.out.size
      clear HBD
      go_wp2_with fail
      refine (HLK.out _ HBA.out HSW.out).mono ?_
      rintro r w3 ⟨tt, rfl, htt, b3⟩
      have hzt := size_of htt
      have hs3 := b3.size
      have HTT : Hid (nums tt = cd) := htt
      have HCW := bwrite_any w.heap.size w.heap.size l tt w3 (HBDA.out.under b3) (by omega) (by omega)
      have HCX : Hid (type_of% HCW) := HCW
      have HB3 : Hid (Below w.heap.size w w3) := HXA.out.trans (b3.mono hza)
      clear HCW htt b3 HBDA HXA HBA HSW HLK HCC e0 e1
      go_wp2_with fail
      refine HCX.out.mono ?_
      rintro r w4 ⟨rfl, hb4, b4⟩
      have HD4 : Hid (∃ l : List UInt8, nums ⟨l.toArray⟩ = uB n ++ (L.take (i + 1)).flatMap tx ∧ BD w4 w.heap.size w.heap.size l) := ⟨_, by rw [nums_list, HNL.out, HTT.out, HS.out, List.append_assoc], hb4⟩
      have HB4 : Hid (Below w.heap.size w w4) := HB3.out.trans (b4.mono (Nat.le_refl _))
      clear hb4 b4 HCX HB3
      go_wp2
      go_roundw
      case rel => exact ⟨i + 1, by go_num, by omega, HD4, HB4⟩
      case measure => simp [intOf]; omega
    · have HTL : Hid (L.take i = L) := List.take_of_length_le (by rw [HL.out]; omega)
      rw [HTL.out] at HNL
      have HST := bstring_any w.heap.size w.heap.size l wr HBD.out (by omega)
      have HSU : Hid (type_of% HST) := HST
      clear HST HBD HTL
      go_wp2_with fail
      refine HSU.out.mono ?_
      rintro r w3 ⟨rfl, b3⟩
      go_wp2
      go_ret
      exact ⟨_, rfl, HNL.out, HBX.out.trans (b3.mono (Nat.le_refl _))⟩
theorem listText_typ (N : Nat) (w0 w : World) (tx : FunD → List Int) (U : Nat) (hU : U ≤ 400000) (L : List FunD) (o : Option Addr) (n cap : Nat) (hn : L.length = n) (hcap : n ≤ cap) (hmax : n ≤ 200)
    (hr : L = [] ∨ ∃ b f, o = some ⟨b, f, none⟩ ∧ b < N ∧ ∀ i (h : i < L.length) r, r < 3 → w0.cell? ⟨b, f + i * 3 + r, none⟩ = (FunD.cells L[i])[r]?)
    (hb : Below N w0 w) (hNw : N ≤ w.heap.size) (hlen : ∀ d ∈ L, (tx d).length ≤ U)
    (HLOOK : Hid (∀ d ∈ L, ∀ w', Below N w0 w' → N ≤ w'.heap.size → Calls Tryz.prog 76 #[.agg #[.int .i64 d.t, .slice d.l.o d.l.n d.l.cap, .slice d.o d.b.length d.cap]] w' (Txt w' (tx d)))) :
    Calls Tryz.prog 127 #[.slice o n cap, .func (.func 76) #[] #[]] w (Txt w (uB n ++ L.flatMap tx)) := by
  have HBW : Hid (Below N w0 w) := hb
  have HL : Hid (L.length = n) := hn
  have HSZ : Hid (N ≤ w.heap.size) := hNw
  have HLE : Hid (∀ d ∈ L, (tx d).length ≤ U) := hlen
  have hu := uB_len10 n (by omega)
  have HN : Hid (type_of% (numberText_any (n : Int) (by omega) (by omega) (w.alloc (.cells #[.pointer none, .slice none 0 0] 223)))) := numberText_any (n : Int) (by omega) (by omega) (w.alloc (.cells #[.pointer none, .slice none 0 0] 223))
  have HD0 : Hid (BD (w.alloc (.cells #[.pointer none, .slice none 0 0] 223)) w.heap.size w.heap.size []) := BD.new w
  rcases hr with rfl | ⟨b, f, rfl, hbN, hcells⟩
  · have hn0 : n = 0 := by rw [← hn]; rfl
    subst hn0
    clear hb hn hNw hlen
    go_enter Tryz.func127, Tryz.ntmps127
    go_wp2_with fail
    refine HN.out.mono ?_
    rintro r w1 ⟨t, rfl, ht, b1⟩
    have hz := size_of ht
    have hs1 := b1.size
    rw [World.size_alloc] at hs1
    have HT : Hid (nums t = uB 0) := ht
    have HCW := bwrite_any w.heap.size w.heap.size [] t w1 (HD0.out.under b1) (by simp at hz ⊢; omega) (by omega)
    have HCX : Hid (type_of% HCW) := HCW
    have HB1 : Hid (Below w.heap.size w w1) := ((Below.refl _ _).alloc (Nat.le_refl _) _).trans (b1.mono (by simp))
    clear HCW ht b1 HN HD0
    go_wp2_with fail
    refine HCX.out.mono ?_
    rintro r w2 ⟨rfl, hb2, b2⟩
    have HD2 : Hid (∃ l : List UInt8, nums ⟨l.toArray⟩ = uB 0 ∧ l.length ≤ 10 ∧ BD w2 w.heap.size w.heap.size l) := ⟨_, by rw [nums_list, HT.out]; rfl, Nat.le_trans (Nat.le_of_eq (len_of_size t)) (by rw [hz]; exact hu), hb2⟩
    have HB2 : Hid (Below w.heap.size w w2) := HB1.out.trans (b2.mono (Nat.le_refl _))
    clear hb2 b2 HCX HB1
    go_wp2
    go_loopw [14] (fun iv wr => iv = .int .i64 0 ∧ Hid (∃ l : List UInt8, nums ⟨l.toArray⟩ = uB 0 ∧ l.length ≤ 10 ∧ BD wr w.heap.size w.heap.size l) ∧ Hid (Below w.heap.size w wr)) (fun _ _ => 0)
    case atStart => exact ⟨rfl, HD2, HB2⟩
    case round =>
      obtain ⟨rfl, HD, HB⟩ := hrel
      obtain ⟨l, hnl, hll, hbd⟩ := HD.out
      have HNL : Hid (type_of% hnl) := hnl
      have hlt0 := hbd.lt
      have HST := bstring_any w.heap.size w.heap.size l wr hbd (by omega)
      have HSU : Hid (type_of% HST) := HST
      clear HST hbd hnl
      go_wp2_with fail
      refine HSU.out.mono ?_
      rintro r w3 ⟨rfl, b3⟩
      go_wp2
      go_ret
      exact ⟨_, rfl, by rw [HNL.out]; simp, HB.out.trans (b3.mono (Nat.le_refl _))⟩
  have HR : Hid (type_of% hcells) := hcells
  clear hb hcells hn hNw hlen
  go_enter Tryz.func127, Tryz.ntmps127
  go_wp2_with fail
  refine HN.out.mono ?_
  rintro r w1 ⟨t, rfl, ht, b1⟩
  have hz := size_of ht
  have hs1 := b1.size
  rw [World.size_alloc] at hs1
  rw [Int.toNat_natCast] at hz ht
  have HT : Hid (nums t = uB n) := ht
  have HCW := bwrite_any w.heap.size w.heap.size [] t w1 (HD0.out.under b1) (by simp; omega) (by omega)
  have HCX : Hid (type_of% HCW) := HCW
  have HB1 : Hid (Below w.heap.size w w1) := ((Below.refl _ _).alloc (Nat.le_refl _) _).trans (b1.mono (by simp))
  clear HCW ht b1 HN HD0
  go_wp2_with fail
  refine HCX.out.mono ?_
  rintro r w2 ⟨rfl, hb2, b2⟩
  have HD2 : Hid (∃ l : List UInt8, nums ⟨l.toArray⟩ = uB n ++ (L.take 0).flatMap tx ∧ BD w2 w.heap.size w.heap.size l) := ⟨_, by rw [nums_list, HT.out]; simp; rfl, hb2⟩
  have HB2 : Hid (Below w.heap.size w w2) := HB1.out.trans (b2.mono (Nat.le_refl _))
  clear hb2 b2 HCX HB1
  go_wp2
  go_loopw [14] (fun iv wr => ∃ i : Nat, iv = .int .i64 (i : Int) ∧ i ≤ n ∧ Hid (∃ l : List UInt8, nums ⟨l.toArray⟩ = uB n ++ (L.take i).flatMap tx ∧ BD wr w.heap.size w.heap.size l) ∧ Hid (Below w.heap.size w wr)) (fun iv _ => n - (intOf iv).toNat)
  case atStart => exact ⟨0, rfl, by omega, HD2, HB2⟩
  case round =>
    obtain ⟨i, rfl, hin, HD, HBX⟩ := hrel
    have HB : Hid (Below N w0 wr) := HBW.out.trans (HBX.out.mono HSZ.out)
    obtain ⟨l, hnl, hbd⟩ := HD.out
    have hll : l.length ≤ 10 + i * U := by
      rw [← nums_len', hnl, List.length_append]
      have := flat_le tx U (L.take i) fun d hd => HLE.out d (List.take_subset _ _ hd)
      rw [List.length_take] at this
      have h2 : min i L.length * U ≤ i * U := Nat.mul_le_mul_right _ (Nat.min_le_left _ _)
      omega
    have hiU : i * U ≤ 200 * 400000 := Nat.mul_le_mul (by omega) hU
    have hw1 : w.heap.size < wr.heap.size := hbd.lt
    have HNL : Hid (type_of% hnl) := hnl
    have HBD : Hid (type_of% hbd) := hbd
    clear HD hnl hbd HD2 HB2
    by_cases hlt : i < n
    · have hiL : i < L.length := by rw [HL.out]; exact hlt
      have hi0 : (0 : Int) ≤ (i : Int) := by omega
      have hi1 : (i : Int) < (n : Int) := by omega
      have HS : Hid ((L.take (i + 1)).flatMap tx = (L.take i).flatMap tx ++ tx L[i]) := by
        unfold Hid
        rw [List.take_succ_eq_append_getElem hiL, List.flatMap_append]
        simp
      have HLK : Hid (type_of% (HLOOK.out L[i] (List.getElem_mem hiL))) := HLOOK.out L[i] (List.getElem_mem hiL)
      have hdl : (tx L[i]).length ≤ U := HLE.out _ (List.getElem_mem hiL)
      have HCC : Hid (∀ r, r < 3 → wr.cell? ⟨b, f + i * 3 + r, none⟩ = (FunD.cells L[i])[r]?) := fun r hr => by
        rw [HB.out.cell (p := ⟨b, f + i * 3 + r, none⟩) hbN]
        exact HR.out i hiL r hr
      obtain ⟨d, hd⟩ : ∃ d, d = L[i] := ⟨_, rfl⟩
      rw [← hd] at HS HLK HCC hdl
      clear hd
      obtain ⟨cd, hcd⟩ : ∃ cd, cd = tx d := ⟨_, rfl⟩
      rw [← hcd] at HS HLK hdl
      clear hcd
      obtain ⟨t1, ⟨o2, n2, c2, x2⟩, o3, c3, b3⟩ := d
      have e0 : wr.cell? ⟨b, f + i * 3, none⟩ = some (.int .i64 t1) := HCC.out 0 (by omega)
      have e1 : wr.cell? ⟨b, f + i * 3 + 1, none⟩ = some (.slice o2 n2 c2) := HCC.out 1 (by omega)
      have e2 : wr.cell? ⟨b, f + i * 3 + 2, none⟩ = some (.slice o3 b3.length c3) := HCC.out 2 (by omega)
      have hs0 : (wr.alloc (.cells #[.int .i64 0, .slice none 0 0, .slice none 0 0] 58)).heap.size = wr.heap.size + 1 := by simp
      have hbn : b ≠ wr.heap.size := by
        have := HB.out.size
        have h3 := HSZ.out
        omega
      have HNW : Hid (N ≤ wr.heap.size) := by have h3 := HSZ.out; unfold Hid; omega
      have HBA : Hid (Below N w0 (wr.alloc (.cells #[.int .i64 t1, .slice o2 n2 c2, .slice o3 b3.length c3] 58))) := HB.out.alloc HNW.out _
      have HSW : Hid (N ≤ ((wr.alloc (.cells #[.int .i64 t1, .slice o2 n2 c2, .slice o3 b3.length c3] 58))).heap.size) := by
        have h4 := HNW.out
        unfold Hid
        simp
        omega
      have HXA : Hid (Below w.heap.size w (wr.alloc (.cells #[.int .i64 t1, .slice o2 n2 c2, .slice o3 b3.length c3] 58))) := HBX.out.alloc HBX.out.size _
      have HBDA : Hid (BD (wr.alloc (.cells #[.int .i64 t1, .slice o2 n2 c2, .slice o3 b3.length c3] 58)) w.heap.size w.heap.size l) := HBD.out.under ((Below.refl _ _).alloc (Nat.le_refl _) _)
      have hza : w.heap.size ≤ ((wr.alloc (.cells #[.int .i64 t1, .slice o2 n2 c2, .slice o3 b3.length c3] 58))).heap.size := HXA.out.size
      clear HBD
      go_wp2_with fail
      refine (HLK.out _ HBA.out HSW.out).mono ?_
      rintro r w3 ⟨tt, rfl, htt, b3⟩
      have hzt := size_of htt
      have hs3 := b3.size
      have HTT : Hid (nums tt = cd) := htt
      have HCW := bwrite_any w.heap.size w.heap.size l tt w3 (HBDA.out.under b3) (by omega) (by omega)
      have HCX : Hid (type_of% HCW) := HCW
      have HB3 : Hid (Below w.heap.size w w3) := HXA.out.trans (b3.mono hza)
      clear HCW htt b3 HBDA HXA HBA HSW HLK HCC e0 e1 e2
      go_wp2_with fail
      refine HCX.out.mono ?_
      rintro r w4 ⟨rfl, hb4, b4⟩
      have HD4 : Hid (∃ l : List UInt8, nums ⟨l.toArray⟩ = uB n ++ (L.take (i + 1)).flatMap tx ∧ BD w4 w.heap.size w.heap.size l) := ⟨_, by rw [nums_list, HNL.out, HTT.out, HS.out, List.append_assoc], hb4⟩
      have HB4 : Hid (Below w.heap.size w w4) := HB3.out.trans (b4.mono (Nat.le_refl _))
      clear hb4 b4 HCX HB3
      go_wp2
      go_roundw
      case rel => exact ⟨i + 1, by go_num, by omega, HD4, HB4⟩
      case measure => simp [intOf]; omega
    · have HTL : Hid (L.take i = L) := List.take_of_length_le (by rw [HL.out]; omega)
      rw [HTL.out] at HNL
      have HST := bstring_any w.heap.size w.heap.size l wr HBD.out (by omega)
      have HSU : Hid (type_of% HST) := HST
      clear HST HBD HTL
      go_wp2_with fail
      refine HSU.out.mono ?_
      rintro r w3 ⟨rfl, b3⟩
      go_wp2
      go_ret
      exact ⟨_, rfl, HNL.out, HBX.out.trans (b3.mono (Nat.le_refl _))⟩
theorem listText_cod (N : Nat) (w0 w : World) (tx : FunD → List Int) (U : Nat) (hU : U ≤ 400000) (L : List FunD) (o : Option Addr) (n cap : Nat) (hn : L.length = n) (hcap : n ≤ cap) (hmax : n ≤ 200)
    (hr : L = [] ∨ ∃ b f, o = some ⟨b, f, none⟩ ∧ b < N ∧ ∀ i (h : i < L.length) r, r < 3 → w0.cell? ⟨b, f + i * 3 + r, none⟩ = (FunD.cells L[i])[r]?)
    (hb : Below N w0 w) (hNw : N ≤ w.heap.size) (hlen : ∀ d ∈ L, (tx d).length ≤ U)
    (HLOOK : Hid (∀ d ∈ L, ∀ w', Below N w0 w' → N ≤ w'.heap.size → Calls Tryz.prog 86 #[.agg #[.int .i64 d.t, .slice d.l.o d.l.n d.l.cap, .slice d.o d.b.length d.cap]] w' (Txt w' (tx d)))) :
    Calls Tryz.prog 127 #[.slice o n cap, .func (.func 86) #[] #[]] w (Txt w (uB n ++ L.flatMap tx)) := by
  have HBW : Hid (Below N w0 w) := hb
  have HL : Hid (L.length = n) := hn
  have HSZ : Hid (N ≤ w.heap.size) := hNw
  have HLE : Hid (∀ d ∈ L, (tx d).length ≤ U) := hlen
  have hu := uB_len10 n (by omega)
  have HN : Hid (type_of% (numberText_any (n : Int) (by omega) (by omega) (w.alloc (.cells #[.pointer none, .slice none 0 0] 223)))) := numberText_any (n : Int) (by omega) (by omega) (w.alloc (.cells #[.pointer none, .slice none 0 0] 223))
  have HD0 : Hid (BD (w.alloc (.cells #[.pointer none, .slice none 0 0] 223)) w.heap.size w.heap.size []) := BD.new w
  rcases hr with rfl | ⟨b, f, rfl, hbN, hcells⟩
  · have hn0 : n = 0 := by rw [← hn]; rfl
    subst hn0
    clear hb hn hNw hlen
    go_enter Tryz.func127, Tryz.ntmps127
    go_wp2_with fail
    refine HN.out.mono ?_
    rintro r w1 ⟨t, rfl, ht, b1⟩
    have hz := size_of ht
    have hs1 := b1.size
    rw [World.size_alloc] at hs1
    have HT : Hid (nums t = uB 0) := ht
    have HCW := bwrite_any w.heap.size w.heap.size [] t w1 (HD0.out.under b1) (by simp at hz ⊢; omega) (by omega)
    have HCX : Hid (type_of% HCW) := HCW
    have HB1 : Hid (Below w.heap.size w w1) := ((Below.refl _ _).alloc (Nat.le_refl _) _).trans (b1.mono (by simp))
    clear HCW ht b1 HN HD0
    go_wp2_with fail
    refine HCX.out.mono ?_
    rintro r w2 ⟨rfl, hb2, b2⟩
    have HD2 : Hid (∃ l : List UInt8, nums ⟨l.toArray⟩ = uB 0 ∧ l.length ≤ 10 ∧ BD w2 w.heap.size w.heap.size l) := ⟨_, by rw [nums_list, HT.out]; rfl, Nat.le_trans (Nat.le_of_eq (len_of_size t)) (by rw [hz]; exact hu), hb2⟩
    have HB2 : Hid (Below w.heap.size w w2) := HB1.out.trans (b2.mono (Nat.le_refl _))
    clear hb2 b2 HCX HB1
    go_wp2
    go_loopw [14] (fun iv wr => iv = .int .i64 0 ∧ Hid (∃ l : List UInt8, nums ⟨l.toArray⟩ = uB 0 ∧ l.length ≤ 10 ∧ BD wr w.heap.size w.heap.size l) ∧ Hid (Below w.heap.size w wr)) (fun _ _ => 0)
    case atStart => exact ⟨rfl, HD2, HB2⟩
    case round =>
      obtain ⟨rfl, HD, HB⟩ := hrel
      obtain ⟨l, hnl, hll, hbd⟩ := HD.out
      have HNL : Hid (type_of% hnl) := hnl
      have hlt0 := hbd.lt
      have HST := bstring_any w.heap.size w.heap.size l wr hbd (by omega)
      have HSU : Hid (type_of% HST) := HST
      clear HST hbd hnl
      go_wp2_with fail
      refine HSU.out.mono ?_
      rintro r w3 ⟨rfl, b3⟩
      go_wp2
      go_ret
      exact ⟨_, rfl, by rw [HNL.out]; simp, HB.out.trans (b3.mono (Nat.le_refl _))⟩
  have HR : Hid (type_of% hcells) := hcells
  clear hb hcells hn hNw hlen
  go_enter Tryz.func127, Tryz.ntmps127
  go_wp2_with fail
  refine HN.out.mono ?_
  rintro r w1 ⟨t, rfl, ht, b1⟩
  have hz := size_of ht
  have hs1 := b1.size
  rw [World.size_alloc] at hs1
  rw [Int.toNat_natCast] at hz ht
  have HT : Hid (nums t = uB n) := ht
  have HCW := bwrite_any w.heap.size w.heap.size [] t w1 (HD0.out.under b1) (by simp; omega) (by omega)
  have HCX : Hid (type_of% HCW) := HCW
  have HB1 : Hid (Below w.heap.size w w1) := ((Below.refl _ _).alloc (Nat.le_refl _) _).trans (b1.mono (by simp))
  clear HCW ht b1 HN HD0
  go_wp2_with fail
  refine HCX.out.mono ?_
  rintro r w2 ⟨rfl, hb2, b2⟩
  have HD2 : Hid (∃ l : List UInt8, nums ⟨l.toArray⟩ = uB n ++ (L.take 0).flatMap tx ∧ BD w2 w.heap.size w.heap.size l) := ⟨_, by rw [nums_list, HT.out]; simp; rfl, hb2⟩
  have HB2 : Hid (Below w.heap.size w w2) := HB1.out.trans (b2.mono (Nat.le_refl _))
  clear hb2 b2 HCX HB1
  go_wp2
  go_loopw [14] (fun iv wr => ∃ i : Nat, iv = .int .i64 (i : Int) ∧ i ≤ n ∧ Hid (∃ l : List UInt8, nums ⟨l.toArray⟩ = uB n ++ (L.take i).flatMap tx ∧ BD wr w.heap.size w.heap.size l) ∧ Hid (Below w.heap.size w wr)) (fun iv _ => n - (intOf iv).toNat)
  case atStart => exact ⟨0, rfl, by omega, HD2, HB2⟩
  case round =>
    obtain ⟨i, rfl, hin, HD, HBX⟩ := hrel
    have HB : Hid (Below N w0 wr) := HBW.out.trans (HBX.out.mono HSZ.out)
    obtain ⟨l, hnl, hbd⟩ := HD.out
    have hll : l.length ≤ 10 + i * U := by
      rw [← nums_len', hnl, List.length_append]
      have := flat_le tx U (L.take i) fun d hd => HLE.out d (List.take_subset _ _ hd)
      rw [List.length_take] at this
      have h2 : min i L.length * U ≤ i * U := Nat.mul_le_mul_right _ (Nat.min_le_left _ _)
      omega
    have hiU : i * U ≤ 200 * 400000 := Nat.mul_le_mul (by omega) hU
    have hw1 : w.heap.size < wr.heap.size := hbd.lt
    have HNL : Hid (type_of% hnl) := hnl
    have HBD : Hid (type_of% hbd) := hbd
    clear HD hnl hbd HD2 HB2
    by_cases hlt : i < n
    · have hiL : i < L.length := by rw [HL.out]; exact hlt
      have hi0 : (0 : Int) ≤ (i : Int) := by omega
      have hi1 : (i : Int) < (n : Int) := by omega
      have HS : Hid ((L.take (i + 1)).flatMap tx = (L.take i).flatMap tx ++ tx L[i]) := by
        unfold Hid
        rw [List.take_succ_eq_append_getElem hiL, List.flatMap_append]
        simp
      have HLK : Hid (type_of% (HLOOK.out L[i] (List.getElem_mem hiL))) := HLOOK.out L[i] (List.getElem_mem hiL)
      have hdl : (tx L[i]).length ≤ U := HLE.out _ (List.getElem_mem hiL)
      have HCC : Hid (∀ r, r < 3 → wr.cell? ⟨b, f + i * 3 + r, none⟩ = (FunD.cells L[i])[r]?) := fun r hr => by
        rw [HB.out.cell (p := ⟨b, f + i * 3 + r, none⟩) hbN]
        exact HR.out i hiL r hr
      obtain ⟨d, hd⟩ : ∃ d, d = L[i] := ⟨_, rfl⟩
      rw [← hd] at HS HLK HCC hdl
      clear hd
      obtain ⟨cd, hcd⟩ : ∃ cd, cd = tx d := ⟨_, rfl⟩
      rw [← hcd] at HS HLK hdl
      clear hcd
      obtain ⟨t1, ⟨o2, n2, c2, x2⟩, o3, c3, b3⟩ := d
      have e0 : wr.cell? ⟨b, f + i * 3, none⟩ = some (.int .i64 t1) := HCC.out 0 (by omega)
      have e1 : wr.cell? ⟨b, f + i * 3 + 1, none⟩ = some (.slice o2 n2 c2) := HCC.out 1 (by omega)
      have e2 : wr.cell? ⟨b, f + i * 3 + 2, none⟩ = some (.slice o3 b3.length c3) := HCC.out 2 (by omega)
      have hs0 : (wr.alloc (.cells #[.int .i64 0, .slice none 0 0, .slice none 0 0] 58)).heap.size = wr.heap.size + 1 := by simp
      have hbn : b ≠ wr.heap.size := by
        have := HB.out.size
        have h3 := HSZ.out
        omega
      have HNW : Hid (N ≤ wr.heap.size) := by have h3 := HSZ.out; unfold Hid; omega
      have HBA : Hid (Below N w0 (wr.alloc (.cells #[.int .i64 t1, .slice o2 n2 c2, .slice o3 b3.length c3] 58))) := HB.out.alloc HNW.out _
      have HSW : Hid (N ≤ ((wr.alloc (.cells #[.int .i64 t1, .slice o2 n2 c2, .slice o3 b3.length c3] 58))).heap.size) := by
        have h4 := HNW.out
        unfold Hid
        simp
        omega
      have HXA : Hid (Below w.heap.size w (wr.alloc (.cells #[.int .i64 t1, .slice o2 n2 c2, .slice o3 b3.length c3] 58))) := HBX.out.alloc HBX.out.size _
      have HBDA : Hid (BD (wr.alloc (.cells #[.int .i64 t1, .slice o2 n2 c2, .slice o3 b3.length c3] 58)) w.heap.size w.heap.size l) := HBD.out.under ((Below.refl _ _).alloc (Nat.le_refl _) _)
      have hza : w.heap.size ≤ ((wr.alloc (.cells #[.int .i64 t1, .slice o2 n2 c2, .slice o3 b3.length c3] 58))).heap.size := HXA.out.size
      clear HBD
      go_wp2_with fail
      refine (HLK.out _ HBA.out HSW.out).mono ?_
      rintro r w3 ⟨tt, rfl, htt, b3⟩
      have hzt := size_of htt
      have hs3 := b3.size
      have HTT : Hid (nums tt = cd) := htt
      have HCW := bwrite_any w.heap.size w.heap.size l tt w3 (HBDA.out.under b3) (by omega) (by omega)
      have HCX : Hid (type_of% HCW) := HCW
      have HB3 : Hid (Below w.heap.size w w3) := HXA.out.trans (b3.mono hza)
      clear HCW htt b3 HBDA HXA HBA HSW HLK HCC e0 e1 e2
      go_wp2_with fail
      refine HCX.out.mono ?_
      rintro r w4 ⟨rfl, hb4, b4⟩
      have HD4 : Hid (∃ l : List UInt8, nums ⟨l.toArray⟩ = uB n ++ (L.take (i + 1)).flatMap tx ∧ BD w4 w.heap.size w.heap.size l) := ⟨_, by rw [nums_list, HNL.out, HTT.out, HS.out, List.append_assoc], hb4⟩
      have HB4 : Hid (Below w.heap.size w w4) := HB3.out.trans (b4.mono (Nat.le_refl _))
      clear hb4 b4 HCX HB3
      go_wp2
      go_roundw
      case rel => exact ⟨i + 1, by go_num, by omega, HD4, HB4⟩
      case measure => simp [intOf]; omega
    · have HTL : Hid (L.take i = L) := List.take_of_length_le (by rw [HL.out]; omega)
      rw [HTL.out] at HNL
      have HST := bstring_any w.heap.size w.heap.size l wr HBD.out (by omega)
      have HSU : Hid (type_of% HST) := HST
      clear HST HBD HTL
      go_wp2_with fail
      refine HSU.out.mono ?_
      rintro r w3 ⟨rfl, b3⟩
      go_wp2
      go_ret
      exact ⟨_, rfl, HNL.out, HBX.out.trans (b3.mono (Nat.le_refl _))⟩
theorem listText_glo (N : Nat) (w0 w : World) (tx : GloD → List Int) (U : Nat) (hU : U ≤ 400000) (L : List GloD) (o : Option Addr) (n cap : Nat) (hn : L.length = n) (hcap : n ≤ cap) (hmax : n ≤ 200)
    (hr : L = [] ∨ ∃ b f, o = some ⟨b, f, none⟩ ∧ b < N ∧ ∀ i (h : i < L.length) r, r < 3 → w0.cell? ⟨b, f + i * 3 + r, none⟩ = (GloD.cells L[i])[r]?)
    (hb : Below N w0 w) (hNw : N ≤ w.heap.size) (hlen : ∀ d ∈ L, (tx d).length ≤ U)
    (HLOOK : Hid (∀ d ∈ L, ∀ w', Below N w0 w' → N ≤ w'.heap.size → Calls Tryz.prog 80 #[.agg #[.int .u8 d.k, .bool d.m, .int .i64 d.s]] w' (Txt w' (tx d)))) :
    Calls Tryz.prog 128 #[.slice o n cap, .func (.func 80) #[] #[]] w (Txt w (uB n ++ L.flatMap tx)) := by
  have HBW : Hid (Below N w0 w) := hb
  have HL : Hid (L.length = n) := hn
  have HSZ : Hid (N ≤ w.heap.size) := hNw
  have HLE : Hid (∀ d ∈ L, (tx d).length ≤ U) := hlen
  have hu := uB_len10 n (by omega)
  have HN : Hid (type_of% (numberText_any (n : Int) (by omega) (by omega) (w.alloc (.cells #[.pointer none, .slice none 0 0] 223)))) := numberText_any (n : Int) (by omega) (by omega) (w.alloc (.cells #[.pointer none, .slice none 0 0] 223))
  have HD0 : Hid (BD (w.alloc (.cells #[.pointer none, .slice none 0 0] 223)) w.heap.size w.heap.size []) := BD.new w
  rcases hr with rfl | ⟨b, f, rfl, hbN, hcells⟩
  · have hn0 : n = 0 := by rw [← hn]; rfl
    subst hn0
    clear hb hn hNw hlen
    go_enter Tryz.func128, Tryz.ntmps128
    go_wp2_with fail
    refine HN.out.mono ?_
    rintro r w1 ⟨t, rfl, ht, b1⟩
    have hz := size_of ht
    have hs1 := b1.size
    rw [World.size_alloc] at hs1
    have HT : Hid (nums t = uB 0) := ht
    have HCW := bwrite_any w.heap.size w.heap.size [] t w1 (HD0.out.under b1) (by simp at hz ⊢; omega) (by omega)
    have HCX : Hid (type_of% HCW) := HCW
    have HB1 : Hid (Below w.heap.size w w1) := ((Below.refl _ _).alloc (Nat.le_refl _) _).trans (b1.mono (by simp))
    clear HCW ht b1 HN HD0
    go_wp2_with fail
    refine HCX.out.mono ?_
    rintro r w2 ⟨rfl, hb2, b2⟩
    have HD2 : Hid (∃ l : List UInt8, nums ⟨l.toArray⟩ = uB 0 ∧ l.length ≤ 10 ∧ BD w2 w.heap.size w.heap.size l) := ⟨_, by rw [nums_list, HT.out]; rfl, Nat.le_trans (Nat.le_of_eq (len_of_size t)) (by rw [hz]; exact hu), hb2⟩
    have HB2 : Hid (Below w.heap.size w w2) := HB1.out.trans (b2.mono (Nat.le_refl _))
    clear hb2 b2 HCX HB1
    go_wp2
    go_loopw [14] (fun iv wr => iv = .int .i64 0 ∧ Hid (∃ l : List UInt8, nums ⟨l.toArray⟩ = uB 0 ∧ l.length ≤ 10 ∧ BD wr w.heap.size w.heap.size l) ∧ Hid (Below w.heap.size w wr)) (fun _ _ => 0)
    case atStart => exact ⟨rfl, HD2, HB2⟩
    case round =>
      obtain ⟨rfl, HD, HB⟩ := hrel
      obtain ⟨l, hnl, hll, hbd⟩ := HD.out
      have HNL : Hid (type_of% hnl) := hnl
      have hlt0 := hbd.lt
      have HST := bstring_any w.heap.size w.heap.size l wr hbd (by omega)
      have HSU : Hid (type_of% HST) := HST
      clear HST hbd hnl
      go_wp2_with fail
      refine HSU.out.mono ?_
      rintro r w3 ⟨rfl, b3⟩
      go_wp2
      go_ret
      exact ⟨_, rfl, by rw [HNL.out]; simp, HB.out.trans (b3.mono (Nat.le_refl _))⟩
  have HR : Hid (type_of% hcells) := hcells
  clear hb hcells hn hNw hlen
  go_enter Tryz.func128, Tryz.ntmps128
  go_wp2_with fail
  refine HN.out.mono ?_
  rintro r w1 ⟨t, rfl, ht, b1⟩
  have hz := size_of ht
  have hs1 := b1.size
  rw [World.size_alloc] at hs1
  rw [Int.toNat_natCast] at hz ht
  have HT : Hid (nums t = uB n) := ht
  have HCW := bwrite_any w.heap.size w.heap.size [] t w1 (HD0.out.under b1) (by simp; omega) (by omega)
  have HCX : Hid (type_of% HCW) := HCW
  have HB1 : Hid (Below w.heap.size w w1) := ((Below.refl _ _).alloc (Nat.le_refl _) _).trans (b1.mono (by simp))
  clear HCW ht b1 HN HD0
  go_wp2_with fail
  refine HCX.out.mono ?_
  rintro r w2 ⟨rfl, hb2, b2⟩
  have HD2 : Hid (∃ l : List UInt8, nums ⟨l.toArray⟩ = uB n ++ (L.take 0).flatMap tx ∧ BD w2 w.heap.size w.heap.size l) := ⟨_, by rw [nums_list, HT.out]; simp; rfl, hb2⟩
  have HB2 : Hid (Below w.heap.size w w2) := HB1.out.trans (b2.mono (Nat.le_refl _))
  clear hb2 b2 HCX HB1
  go_wp2
  go_loopw [14] (fun iv wr => ∃ i : Nat, iv = .int .i64 (i : Int) ∧ i ≤ n ∧ Hid (∃ l : List UInt8, nums ⟨l.toArray⟩ = uB n ++ (L.take i).flatMap tx ∧ BD wr w.heap.size w.heap.size l) ∧ Hid (Below w.heap.size w wr)) (fun iv _ => n - (intOf iv).toNat)
  case atStart => exact ⟨0, rfl, by omega, HD2, HB2⟩
  case round =>
    obtain ⟨i, rfl, hin, HD, HBX⟩ := hrel
    have HB : Hid (Below N w0 wr) := HBW.out.trans (HBX.out.mono HSZ.out)
    obtain ⟨l, hnl, hbd⟩ := HD.out
    have hll : l.length ≤ 10 + i * U := by
      rw [← nums_len', hnl, List.length_append]
      have := flat_le tx U (L.take i) fun d hd => HLE.out d (List.take_subset _ _ hd)
      rw [List.length_take] at this
      have h2 : min i L.length * U ≤ i * U := Nat.mul_le_mul_right _ (Nat.min_le_left _ _)
      omega
    have hiU : i * U ≤ 200 * 400000 := Nat.mul_le_mul (by omega) hU
    have hw1 : w.heap.size < wr.heap.size := hbd.lt
    have HNL : Hid (type_of% hnl) := hnl
    have HBD : Hid (type_of% hbd) := hbd
    clear HD hnl hbd HD2 HB2
    by_cases hlt : i < n
    · have hiL : i < L.length := by rw [HL.out]; exact hlt
      have hi0 : (0 : Int) ≤ (i : Int) := by omega
      have hi1 : (i : Int) < (n : Int) := by omega
      have HS : Hid ((L.take (i + 1)).flatMap tx = (L.take i).flatMap tx ++ tx L[i]) := by
        unfold Hid
        rw [List.take_succ_eq_append_getElem hiL, List.flatMap_append]
        simp
      have HLK : Hid (type_of% (HLOOK.out L[i] (List.getElem_mem hiL))) := HLOOK.out L[i] (List.getElem_mem hiL)
      have hdl : (tx L[i]).length ≤ U := HLE.out _ (List.getElem_mem hiL)
      have HCC : Hid (∀ r, r < 3 → wr.cell? ⟨b, f + i * 3 + r, none⟩ = (GloD.cells L[i])[r]?) := fun r hr => by
        rw [HB.out.cell (p := ⟨b, f + i * 3 + r, none⟩) hbN]
        exact HR.out i hiL r hr
      obtain ⟨d, hd⟩ : ∃ d, d = L[i] := ⟨_, rfl⟩
      rw [← hd] at HS HLK HCC hdl
      clear hd
      obtain ⟨cd, hcd⟩ : ∃ cd, cd = tx d := ⟨_, rfl⟩
      rw [← hcd] at HS HLK hdl
      clear hcd
      obtain ⟨k1, m1, s1⟩ := d
      have e0 : wr.cell? ⟨b, f + i * 3, none⟩ = some (.int .u8 k1) := HCC.out 0 (by omega)
      have e1 : wr.cell? ⟨b, f + i * 3 + 1, none⟩ = some (.bool m1) := HCC.out 1 (by omega)
      have e2 : wr.cell? ⟨b, f + i * 3 + 2, none⟩ = some (.int .i64 s1) := HCC.out 2 (by omega)
      have hs0 : (wr.alloc (.cells #[.int .u8 0, .bool false, .int .i64 0] 63)).heap.size = wr.heap.size + 1 := by simp
      have hbn : b ≠ wr.heap.size := by
        have := HB.out.size
        have h3 := HSZ.out
        omega
      have HNW : Hid (N ≤ wr.heap.size) := by have h3 := HSZ.out; unfold Hid; omega
      have HBA : Hid (Below N w0 (wr.alloc (.cells #[.int .u8 k1, .bool m1, .int .i64 s1] 63))) := HB.out.alloc HNW.out _
      have HSW : Hid (N ≤ ((wr.alloc (.cells #[.int .u8 k1, .bool m1, .int .i64 s1] 63))).heap.size) := by
        have h4 := HNW.out
        unfold Hid
        simp
        omega
      have HXA : Hid (Below w.heap.size w (wr.alloc (.cells #[.int .u8 k1, .bool m1, .int .i64 s1] 63))) := HBX.out.alloc HBX.out.size _
      have HBDA : Hid (BD (wr.alloc (.cells #[.int .u8 k1, .bool m1, .int .i64 s1] 63)) w.heap.size w.heap.size l) := HBD.out.under ((Below.refl _ _).alloc (Nat.le_refl _) _)
      have hza : w.heap.size ≤ ((wr.alloc (.cells #[.int .u8 k1, .bool m1, .int .i64 s1] 63))).heap.size := HXA.out.size
      clear HBD
      go_wp2_with fail
      refine (HLK.out _ HBA.out HSW.out).mono ?_
      rintro r w3 ⟨tt, rfl, htt, b3⟩
      have hzt := size_of htt
      have hs3 := b3.size
      have HTT : Hid (nums tt = cd) := htt
      have HCW := bwrite_any w.heap.size w.heap.size l tt w3 (HBDA.out.under b3) (by omega) (by omega)
      have HCX : Hid (type_of% HCW) := HCW
      have HB3 : Hid (Below w.heap.size w w3) := HXA.out.trans (b3.mono hza)
      clear HCW htt b3 HBDA HXA HBA HSW HLK HCC e0 e1 e2
      go_wp2_with fail
      refine HCX.out.mono ?_
      rintro r w4 ⟨rfl, hb4, b4⟩
      have HD4 : Hid (∃ l : List UInt8, nums ⟨l.toArray⟩ = uB n ++ (L.take (i + 1)).flatMap tx ∧ BD w4 w.heap.size w.heap.size l) := ⟨_, by rw [nums_list, HNL.out, HTT.out, HS.out, List.append_assoc], hb4⟩
      have HB4 : Hid (Below w.heap.size w w4) := HB3.out.trans (b4.mono (Nat.le_refl _))
      clear hb4 b4 HCX HB3
      go_wp2
      go_roundw
      case rel => exact ⟨i + 1, by go_num, by omega, HD4, HB4⟩
      case measure => simp [intOf]; omega
    · have HTL : Hid (L.take i = L) := List.take_of_length_le (by rw [HL.out]; omega)
      rw [HTL.out] at HNL
      have HST := bstring_any w.heap.size w.heap.size l wr HBD.out (by omega)
      have HSU : Hid (type_of% HST) := HST
      clear HST HBD HTL
      go_wp2_with fail
      refine HSU.out.mono ?_
      rintro r w3 ⟨rfl, b3⟩
      go_wp2
      go_ret
      exact ⟨_, rfl, HNL.out, HBX.out.trans (b3.mono (Nat.le_refl _))⟩
theorem listText_exp (N : Nat) (w0 w : World) (tx : NamD → List Int) (U : Nat) (hU : U ≤ 400000) (L : List NamD) (o : Option Addr) (n cap : Nat) (hn : L.length = n) (hcap : n ≤ cap) (hmax : n ≤ 200)
    (hr : L = [] ∨ ∃ b f, o = some ⟨b, f, none⟩ ∧ b < N ∧ ∀ i (h : i < L.length) r, r < 2 → w0.cell? ⟨b, f + i * 2 + r, none⟩ = (NamD.cells L[i])[r]?)
    (hb : Below N w0 w) (hNw : N ≤ w.heap.size) (hlen : ∀ d ∈ L, (tx d).length ≤ U)
    (HLOOK : Hid (∀ d ∈ L, ∀ w', Below N w0 w' → N ≤ w'.heap.size → Calls Tryz.prog 82 #[.agg #[.string d.s, .int .i64 d.n]] w' (Txt w' (tx d)))) :
    Calls Tryz.prog 131 #[.slice o n cap, .func (.func 82) #[] #[]] w (Txt w (uB n ++ L.flatMap tx)) := by
  have HBW : Hid (Below N w0 w) := hb
  have HL : Hid (L.length = n) := hn
  have HSZ : Hid (N ≤ w.heap.size) := hNw
  have HLE : Hid (∀ d ∈ L, (tx d).length ≤ U) := hlen
  have hu := uB_len10 n (by omega)
  have HN : Hid (type_of% (numberText_any (n : Int) (by omega) (by omega) (w.alloc (.cells #[.pointer none, .slice none 0 0] 223)))) := numberText_any (n : Int) (by omega) (by omega) (w.alloc (.cells #[.pointer none, .slice none 0 0] 223))
  have HD0 : Hid (BD (w.alloc (.cells #[.pointer none, .slice none 0 0] 223)) w.heap.size w.heap.size []) := BD.new w
  rcases hr with rfl | ⟨b, f, rfl, hbN, hcells⟩
  · have hn0 : n = 0 := by rw [← hn]; rfl
    subst hn0
    clear hb hn hNw hlen
    go_enter Tryz.func131, Tryz.ntmps131
    go_wp2_with fail
    refine HN.out.mono ?_
    rintro r w1 ⟨t, rfl, ht, b1⟩
    have hz := size_of ht
    have hs1 := b1.size
    rw [World.size_alloc] at hs1
    have HT : Hid (nums t = uB 0) := ht
    have HCW := bwrite_any w.heap.size w.heap.size [] t w1 (HD0.out.under b1) (by simp at hz ⊢; omega) (by omega)
    have HCX : Hid (type_of% HCW) := HCW
    have HB1 : Hid (Below w.heap.size w w1) := ((Below.refl _ _).alloc (Nat.le_refl _) _).trans (b1.mono (by simp))
    clear HCW ht b1 HN HD0
    go_wp2_with fail
    refine HCX.out.mono ?_
    rintro r w2 ⟨rfl, hb2, b2⟩
    have HD2 : Hid (∃ l : List UInt8, nums ⟨l.toArray⟩ = uB 0 ∧ l.length ≤ 10 ∧ BD w2 w.heap.size w.heap.size l) := ⟨_, by rw [nums_list, HT.out]; rfl, Nat.le_trans (Nat.le_of_eq (len_of_size t)) (by rw [hz]; exact hu), hb2⟩
    have HB2 : Hid (Below w.heap.size w w2) := HB1.out.trans (b2.mono (Nat.le_refl _))
    clear hb2 b2 HCX HB1
    go_wp2
    go_loopw [14] (fun iv wr => iv = .int .i64 0 ∧ Hid (∃ l : List UInt8, nums ⟨l.toArray⟩ = uB 0 ∧ l.length ≤ 10 ∧ BD wr w.heap.size w.heap.size l) ∧ Hid (Below w.heap.size w wr)) (fun _ _ => 0)
    case atStart => exact ⟨rfl, HD2, HB2⟩
    case round =>
      obtain ⟨rfl, HD, HB⟩ := hrel
      obtain ⟨l, hnl, hll, hbd⟩ := HD.out
      have HNL : Hid (type_of% hnl) := hnl
      have hlt0 := hbd.lt
      have HST := bstring_any w.heap.size w.heap.size l wr hbd (by omega)
      have HSU : Hid (type_of% HST) := HST
      clear HST hbd hnl
      go_wp2_with fail
      refine HSU.out.mono ?_
      rintro r w3 ⟨rfl, b3⟩
      go_wp2
      go_ret
      exact ⟨_, rfl, by rw [HNL.out]; simp, HB.out.trans (b3.mono (Nat.le_refl _))⟩
  have HR : Hid (type_of% hcells) := hcells
  clear hb hcells hn hNw hlen
  go_enter Tryz.func131, Tryz.ntmps131
  go_wp2_with fail
  refine HN.out.mono ?_
  rintro r w1 ⟨t, rfl, ht, b1⟩
  have hz := size_of ht
  have hs1 := b1.size
  rw [World.size_alloc] at hs1
  rw [Int.toNat_natCast] at hz ht
  have HT : Hid (nums t = uB n) := ht
  have HCW := bwrite_any w.heap.size w.heap.size [] t w1 (HD0.out.under b1) (by simp; omega) (by omega)
  have HCX : Hid (type_of% HCW) := HCW
  have HB1 : Hid (Below w.heap.size w w1) := ((Below.refl _ _).alloc (Nat.le_refl _) _).trans (b1.mono (by simp))
  clear HCW ht b1 HN HD0
  go_wp2_with fail
  refine HCX.out.mono ?_
  rintro r w2 ⟨rfl, hb2, b2⟩
  have HD2 : Hid (∃ l : List UInt8, nums ⟨l.toArray⟩ = uB n ++ (L.take 0).flatMap tx ∧ BD w2 w.heap.size w.heap.size l) := ⟨_, by rw [nums_list, HT.out]; simp; rfl, hb2⟩
  have HB2 : Hid (Below w.heap.size w w2) := HB1.out.trans (b2.mono (Nat.le_refl _))
  clear hb2 b2 HCX HB1
  go_wp2
  go_loopw [14] (fun iv wr => ∃ i : Nat, iv = .int .i64 (i : Int) ∧ i ≤ n ∧ Hid (∃ l : List UInt8, nums ⟨l.toArray⟩ = uB n ++ (L.take i).flatMap tx ∧ BD wr w.heap.size w.heap.size l) ∧ Hid (Below w.heap.size w wr)) (fun iv _ => n - (intOf iv).toNat)
  case atStart => exact ⟨0, rfl, by omega, HD2, HB2⟩
  case round =>
    obtain ⟨i, rfl, hin, HD, HBX⟩ := hrel
    have HB : Hid (Below N w0 wr) := HBW.out.trans (HBX.out.mono HSZ.out)
    obtain ⟨l, hnl, hbd⟩ := HD.out
    have hll : l.length ≤ 10 + i * U := by
      rw [← nums_len', hnl, List.length_append]
      have := flat_le tx U (L.take i) fun d hd => HLE.out d (List.take_subset _ _ hd)
      rw [List.length_take] at this
      have h2 : min i L.length * U ≤ i * U := Nat.mul_le_mul_right _ (Nat.min_le_left _ _)
      omega
    have hiU : i * U ≤ 200 * 400000 := Nat.mul_le_mul (by omega) hU
    have hw1 : w.heap.size < wr.heap.size := hbd.lt
    have HNL : Hid (type_of% hnl) := hnl
    have HBD : Hid (type_of% hbd) := hbd
    clear HD hnl hbd HD2 HB2
    by_cases hlt : i < n
    · have hiL : i < L.length := by rw [HL.out]; exact hlt
      have hi0 : (0 : Int) ≤ (i : Int) := by omega
      have hi1 : (i : Int) < (n : Int) := by omega
      have HS : Hid ((L.take (i + 1)).flatMap tx = (L.take i).flatMap tx ++ tx L[i]) := by
        unfold Hid
        rw [List.take_succ_eq_append_getElem hiL, List.flatMap_append]
        simp
      have HLK : Hid (type_of% (HLOOK.out L[i] (List.getElem_mem hiL))) := HLOOK.out L[i] (List.getElem_mem hiL)
      have hdl : (tx L[i]).length ≤ U := HLE.out _ (List.getElem_mem hiL)
      have HCC : Hid (∀ r, r < 2 → wr.cell? ⟨b, f + i * 2 + r, none⟩ = (NamD.cells L[i])[r]?) := fun r hr => by
        rw [HB.out.cell (p := ⟨b, f + i * 2 + r, none⟩) hbN]
        exact HR.out i hiL r hr
      obtain ⟨d, hd⟩ : ∃ d, d = L[i] := ⟨_, rfl⟩
      rw [← hd] at HS HLK HCC hdl
      clear hd
      obtain ⟨cd, hcd⟩ : ∃ cd, cd = tx d := ⟨_, rfl⟩
      rw [← hcd] at HS HLK hdl
      clear hcd
      obtain ⟨s1, n1⟩ := d
      have e0 : wr.cell? ⟨b, f + i * 2, none⟩ = some (.string s1) := HCC.out 0 (by omega)
      have e1 : wr.cell? ⟨b, f + i * 2 + 1, none⟩ = some (.int .i64 n1) := HCC.out 1 (by omega)
      have hs0 : (wr.alloc (.cells #[.string ⟨#[]⟩, .int .i64 0] 65)).heap.size = wr.heap.size + 1 := by simp
      have hbn : b ≠ wr.heap.size := by
        have := HB.out.size
        have h3 := HSZ.out
        omega
      have HNW : Hid (N ≤ wr.heap.size) := by have h3 := HSZ.out; unfold Hid; omega
      have HBA : Hid (Below N w0 (wr.alloc (.cells #[.string s1, .int .i64 n1] 65))) := HB.out.alloc HNW.out _
      have HSW : Hid (N ≤ ((wr.alloc (.cells #[.string s1, .int .i64 n1] 65))).heap.size) := by
        have h4 := HNW.out
        unfold Hid
        simp
        omega
      have HXA : Hid (Below w.heap.size w (wr.alloc (.cells #[.string s1, .int .i64 n1] 65))) := HBX.out.alloc HBX.out.size _
      have HBDA : Hid (BD (wr.alloc (.cells #[.string s1, .int .i64 n1] 65)) w.heap.size w.heap.size l) := HBD.out.under ((Below.refl _ _).alloc (Nat.le_refl _) _)
      have hza : w.heap.size ≤ ((wr.alloc (.cells #[.string s1, .int .i64 n1] 65))).heap.size := HXA.out.size
      clear HBD
      go_wp2_with fail
      refine (HLK.out _ HBA.out HSW.out).mono ?_
      rintro r w3 ⟨tt, rfl, htt, b3⟩
      have hzt := size_of htt
      have hs3 := b3.size
      have HTT : Hid (nums tt = cd) := htt
      have HCW := bwrite_any w.heap.size w.heap.size l tt w3 (HBDA.out.under b3) (by omega) (by omega)
      have HCX : Hid (type_of% HCW) := HCW
      have HB3 : Hid (Below w.heap.size w w3) := HXA.out.trans (b3.mono hza)
      clear HCW htt b3 HBDA HXA HBA HSW HLK HCC e0 e1
      go_wp2_with fail
      refine HCX.out.mono ?_
      rintro r w4 ⟨rfl, hb4, b4⟩
      have HD4 : Hid (∃ l : List UInt8, nums ⟨l.toArray⟩ = uB n ++ (L.take (i + 1)).flatMap tx ∧ BD w4 w.heap.size w.heap.size l) := ⟨_, by rw [nums_list, HNL.out, HTT.out, HS.out, List.append_assoc], hb4⟩
      have HB4 : Hid (Below w.heap.size w w4) := HB3.out.trans (b4.mono (Nat.le_refl _))
      clear hb4 b4 HCX HB3
      go_wp2
      go_roundw
      case rel => exact ⟨i + 1, by go_num, by omega, HD4, HB4⟩
      case measure => simp [intOf]; omega
    · have HTL : Hid (L.take i = L) := List.take_of_length_le (by rw [HL.out]; omega)
      rw [HTL.out] at HNL
      have HST := bstring_any w.heap.size w.heap.size l wr HBD.out (by omega)
      have HSU : Hid (type_of% HST) := HST
      clear HST HBD HTL
      go_wp2_with fail
      refine HSU.out.mono ?_
      rintro r w3 ⟨rfl, b3⟩
      go_wp2
      go_ret
      exact ⟨_, rfl, HNL.out, HBX.out.trans (b3.mono (Nat.le_refl _))⟩
theorem listText_ele (N : Nat) (w0 w : World) (tx : EleD → List Int) (U : Nat) (hU : U ≤ 400000) (L : List EleD) (o : Option Addr) (n cap : Nat) (hn : L.length = n) (hcap : n ≤ cap) (hmax : n ≤ 200)
    (hr : L = [] ∨ ∃ b f, o = some ⟨b, f, none⟩ ∧ b < N ∧ ∀ i (h : i < L.length) r, r < 2 → w0.cell? ⟨b, f + i * 2 + r, none⟩ = (EleD.cells L[i])[r]?)
    (hb : Below N w0 w) (hNw : N ≤ w.heap.size) (hlen : ∀ d ∈ L, (tx d).length ≤ U)
    (HLOOK : Hid (∀ d ∈ L, ∀ w', Below N w0 w' → N ≤ w'.heap.size → Calls Tryz.prog 85 #[.agg #[.int .i64 d.a, .slice d.f.o d.f.n d.f.cap]] w' (Txt w' (tx d)))) :
    Calls Tryz.prog 132 #[.slice o n cap, .func (.func 85) #[] #[]] w (Txt w (uB n ++ L.flatMap tx)) := by
  have HBW : Hid (Below N w0 w) := hb
  have HL : Hid (L.length = n) := hn
  have HSZ : Hid (N ≤ w.heap.size) := hNw
  have HLE : Hid (∀ d ∈ L, (tx d).length ≤ U) := hlen
  have hu := uB_len10 n (by omega)
  have HN : Hid (type_of% (numberText_any (n : Int) (by omega) (by omega) (w.alloc (.cells #[.pointer none, .slice none 0 0] 223)))) := numberText_any (n : Int) (by omega) (by omega) (w.alloc (.cells #[.pointer none, .slice none 0 0] 223))
  have HD0 : Hid (BD (w.alloc (.cells #[.pointer none, .slice none 0 0] 223)) w.heap.size w.heap.size []) := BD.new w
  rcases hr with rfl | ⟨b, f, rfl, hbN, hcells⟩
  · have hn0 : n = 0 := by rw [← hn]; rfl
    subst hn0
    clear hb hn hNw hlen
    go_enter Tryz.func132, Tryz.ntmps132
    go_wp2_with fail
    refine HN.out.mono ?_
    rintro r w1 ⟨t, rfl, ht, b1⟩
    have hz := size_of ht
    have hs1 := b1.size
    rw [World.size_alloc] at hs1
    have HT : Hid (nums t = uB 0) := ht
    have HCW := bwrite_any w.heap.size w.heap.size [] t w1 (HD0.out.under b1) (by simp at hz ⊢; omega) (by omega)
    have HCX : Hid (type_of% HCW) := HCW
    have HB1 : Hid (Below w.heap.size w w1) := ((Below.refl _ _).alloc (Nat.le_refl _) _).trans (b1.mono (by simp))
    clear HCW ht b1 HN HD0
    go_wp2_with fail
    refine HCX.out.mono ?_
    rintro r w2 ⟨rfl, hb2, b2⟩
    have HD2 : Hid (∃ l : List UInt8, nums ⟨l.toArray⟩ = uB 0 ∧ l.length ≤ 10 ∧ BD w2 w.heap.size w.heap.size l) := ⟨_, by rw [nums_list, HT.out]; rfl, Nat.le_trans (Nat.le_of_eq (len_of_size t)) (by rw [hz]; exact hu), hb2⟩
    have HB2 : Hid (Below w.heap.size w w2) := HB1.out.trans (b2.mono (Nat.le_refl _))
    clear hb2 b2 HCX HB1
    go_wp2
    go_loopw [14] (fun iv wr => iv = .int .i64 0 ∧ Hid (∃ l : List UInt8, nums ⟨l.toArray⟩ = uB 0 ∧ l.length ≤ 10 ∧ BD wr w.heap.size w.heap.size l) ∧ Hid (Below w.heap.size w wr)) (fun _ _ => 0)
    case atStart => exact ⟨rfl, HD2, HB2⟩
    case round =>
      obtain ⟨rfl, HD, HB⟩ := hrel
      obtain ⟨l, hnl, hll, hbd⟩ := HD.out
      have HNL : Hid (type_of% hnl) := hnl
      have hlt0 := hbd.lt
      have HST := bstring_any w.heap.size w.heap.size l wr hbd (by omega)
      have HSU : Hid (type_of% HST) := HST
      clear HST hbd hnl
      go_wp2_with fail
      refine HSU.out.mono ?_
      rintro r w3 ⟨rfl, b3⟩
      go_wp2
      go_ret
      exact ⟨_, rfl, by rw [HNL.out]; simp, HB.out.trans (b3.mono (Nat.le_refl _))⟩
  have HR : Hid (type_of% hcells) := hcells
  clear hb hcells hn hNw hlen
  go_enter Tryz.func132, Tryz.ntmps132
  go_wp2_with fail
  refine HN.out.mono ?_
  rintro r w1 ⟨t, rfl, ht, b1⟩
  have hz := size_of ht
  have hs1 := b1.size
  rw [World.size_alloc] at hs1
  rw [Int.toNat_natCast] at hz ht
  have HT : Hid (nums t = uB n) := ht
  have HCW := bwrite_any w.heap.size w.heap.size [] t w1 (HD0.out.under b1) (by simp; omega) (by omega)
  have HCX : Hid (type_of% HCW) := HCW
  have HB1 : Hid (Below w.heap.size w w1) := ((Below.refl _ _).alloc (Nat.le_refl _) _).trans (b1.mono (by simp))
  clear HCW ht b1 HN HD0
  go_wp2_with fail
  refine HCX.out.mono ?_
  rintro r w2 ⟨rfl, hb2, b2⟩
  have HD2 : Hid (∃ l : List UInt8, nums ⟨l.toArray⟩ = uB n ++ (L.take 0).flatMap tx ∧ BD w2 w.heap.size w.heap.size l) := ⟨_, by rw [nums_list, HT.out]; simp; rfl, hb2⟩
  have HB2 : Hid (Below w.heap.size w w2) := HB1.out.trans (b2.mono (Nat.le_refl _))
  clear hb2 b2 HCX HB1
  go_wp2
  go_loopw [14] (fun iv wr => ∃ i : Nat, iv = .int .i64 (i : Int) ∧ i ≤ n ∧ Hid (∃ l : List UInt8, nums ⟨l.toArray⟩ = uB n ++ (L.take i).flatMap tx ∧ BD wr w.heap.size w.heap.size l) ∧ Hid (Below w.heap.size w wr)) (fun iv _ => n - (intOf iv).toNat)
  case atStart => exact ⟨0, rfl, by omega, HD2, HB2⟩
  case round =>
    obtain ⟨i, rfl, hin, HD, HBX⟩ := hrel
    have HB : Hid (Below N w0 wr) := HBW.out.trans (HBX.out.mono HSZ.out)
    obtain ⟨l, hnl, hbd⟩ := HD.out
    have hll : l.length ≤ 10 + i * U := by
      rw [← nums_len', hnl, List.length_append]
      have := flat_le tx U (L.take i) fun d hd => HLE.out d (List.take_subset _ _ hd)
      rw [List.length_take] at this
      have h2 : min i L.length * U ≤ i * U := Nat.mul_le_mul_right _ (Nat.min_le_left _ _)
      omega
    have hiU : i * U ≤ 200 * 400000 := Nat.mul_le_mul (by omega) hU
    have hw1 : w.heap.size < wr.heap.size := hbd.lt
    have HNL : Hid (type_of% hnl) := hnl
    have HBD : Hid (type_of% hbd) := hbd
    clear HD hnl hbd HD2 HB2
    by_cases hlt : i < n
    · have hiL : i < L.length := by rw [HL.out]; exact hlt
      have hi0 : (0 : Int) ≤ (i : Int) := by omega
      have hi1 : (i : Int) < (n : Int) := by omega
      have HS : Hid ((L.take (i + 1)).flatMap tx = (L.take i).flatMap tx ++ tx L[i]) := by
        unfold Hid
        rw [List.take_succ_eq_append_getElem hiL, List.flatMap_append]
        simp
      have HLK : Hid (type_of% (HLOOK.out L[i] (List.getElem_mem hiL))) := HLOOK.out L[i] (List.getElem_mem hiL)
      have hdl : (tx L[i]).length ≤ U := HLE.out _ (List.getElem_mem hiL)
      have HCC : Hid (∀ r, r < 2 → wr.cell? ⟨b, f + i * 2 + r, none⟩ = (EleD.cells L[i])[r]?) := fun r hr => by
        rw [HB.out.cell (p := ⟨b, f + i * 2 + r, none⟩) hbN]
        exact HR.out i hiL r hr
      obtain ⟨d, hd⟩ : ∃ d, d = L[i] := ⟨_, rfl⟩
      rw [← hd] at HS HLK HCC hdl
      clear hd
      obtain ⟨cd, hcd⟩ : ∃ cd, cd = tx d := ⟨_, rfl⟩
      rw [← hcd] at HS HLK hdl
      clear hcd
      obtain ⟨y1, ⟨o2, n2, c2, x2⟩⟩ := d
      have e0 : wr.cell? ⟨b, f + i * 2, none⟩ = some (.int .i64 y1) := HCC.out 0 (by omega)
      have e1 : wr.cell? ⟨b, f + i * 2 + 1, none⟩ = some (.slice o2 n2 c2) := HCC.out 1 (by omega)
      have hs0 : (wr.alloc (.cells #[.int .i64 0, .slice none 0 0] 68)).heap.size = wr.heap.size + 1 := by simp
      have hbn : b ≠ wr.heap.size := by
        have := HB.out.size
        have h3 := HSZ.out
        omega
      have HNW : Hid (N ≤ wr.heap.size) := by have h3 := HSZ.out; unfold Hid; omega
      have HBA : Hid (Below N w0 (wr.alloc (.cells #[.int .i64 y1, .slice o2 n2 c2] 68))) := HB.out.alloc HNW.out _
      have HSW : Hid (N ≤ ((wr.alloc (.cells #[.int .i64 y1, .slice o2 n2 c2] 68))).heap.size) := by
        have h4 := HNW.out
        unfold Hid
        simp
        omega
      have HXA : Hid (Below w.heap.size w (wr.alloc (.cells #[.int .i64 y1, .slice o2 n2 c2] 68))) := HBX.out.alloc HBX.out.size _
      have HBDA : Hid (BD (wr.alloc (.cells #[.int .i64 y1, .slice o2 n2 c2] 68)) w.heap.size w.heap.size l) := HBD.out.under ((Below.refl _ _).alloc (Nat.le_refl _) _)
      have hza : w.heap.size ≤ ((wr.alloc (.cells #[.int .i64 y1, .slice o2 n2 c2] 68))).heap.size := HXA.out.size
      clear HBD
      go_wp2_with fail
      refine (HLK.out _ HBA.out HSW.out).mono ?_
      rintro r w3 ⟨tt, rfl, htt, b3⟩
      have hzt := size_of htt
      have hs3 := b3.size
      have HTT : Hid (nums tt = cd) := htt
      have HCW := bwrite_any w.heap.size w.heap.size l tt w3 (HBDA.out.under b3) (by omega) (by omega)
      have HCX : Hid (type_of% HCW) := HCW
      have HB3 : Hid (Below w.heap.size w w3) := HXA.out.trans (b3.mono hza)
      clear HCW htt b3 HBDA HXA HBA HSW HLK HCC e0 e1
      go_wp2_with fail
      refine HCX.out.mono ?_
      rintro r w4 ⟨rfl, hb4, b4⟩
      have HD4 : Hid (∃ l : List UInt8, nums ⟨l.toArray⟩ = uB n ++ (L.take (i + 1)).flatMap tx ∧ BD w4 w.heap.size w.heap.size l) := ⟨_, by rw [nums_list, HNL.out, HTT.out, HS.out, List.append_assoc], hb4⟩
      have HB4 : Hid (Below w.heap.size w w4) := HB3.out.trans (b4.mono (Nat.le_refl _))
      clear hb4 b4 HCX HB3
      go_wp2
      go_roundw
      case rel => exact ⟨i + 1, by go_num, by omega, HD4, HB4⟩
      case measure => simp [intOf]; omega
    · have HTL : Hid (L.take i = L) := List.take_of_length_le (by rw [HL.out]; omega)
      rw [HTL.out] at HNL
      have HST := bstring_any w.heap.size w.heap.size l wr HBD.out (by omega)
      have HSU : Hid (type_of% HST) := HST
      clear HST HBD HTL
      go_wp2_with fail
      refine HSU.out.mono ?_
      rintro r w3 ⟨rfl, b3⟩
      go_wp2
      go_ret
      exact ⟨_, rfl, HNL.out, HBX.out.trans (b3.mono (Nat.le_refl _))⟩
theorem listText_dat (N : Nat) (w0 w : World) (tx : DatD → List Int) (U : Nat) (hU : U ≤ 400000) (L : List DatD) (o : Option Addr) (n cap : Nat) (hn : L.length = n) (hcap : n ≤ cap) (hmax : n ≤ 200)
    (hr : L = [] ∨ ∃ b f, o = some ⟨b, f, none⟩ ∧ b < N ∧ ∀ i (h : i < L.length) r, r < 2 → w0.cell? ⟨b, f + i * 2 + r, none⟩ = (DatD.cells L[i])[r]?)
    (hb : Below N w0 w) (hNw : N ≤ w.heap.size) (hlen : ∀ d ∈ L, (tx d).length ≤ U)
    (HLOOK : Hid (∀ d ∈ L, ∀ w', Below N w0 w' → N ≤ w'.heap.size → Calls Tryz.prog 88 #[.agg #[.int .i64 d.a, .string d.s]] w' (Txt w' (tx d)))) :
    Calls Tryz.prog 140 #[.slice o n cap, .func (.func 88) #[] #[]] w (Txt w (uB n ++ L.flatMap tx)) := by
  have HBW : Hid (Below N w0 w) := hb
  have HL : Hid (L.length = n) := hn
  have HSZ : Hid (N ≤ w.heap.size) := hNw
  have HLE : Hid (∀ d ∈ L, (tx d).length ≤ U) := hlen
  have hu := uB_len10 n (by omega)
  have HN : Hid (type_of% (numberText_any (n : Int) (by omega) (by omega) (w.alloc (.cells #[.pointer none, .slice none 0 0] 223)))) := numberText_any (n : Int) (by omega) (by omega) (w.alloc (.cells #[.pointer none, .slice none 0 0] 223))
  have HD0 : Hid (BD (w.alloc (.cells #[.pointer none, .slice none 0 0] 223)) w.heap.size w.heap.size []) := BD.new w
  rcases hr with rfl | ⟨b, f, rfl, hbN, hcells⟩
  · have hn0 : n = 0 := by rw [← hn]; rfl
    subst hn0
    clear hb hn hNw hlen
    go_enter Tryz.func140, Tryz.ntmps140
    go_wp2_with fail
    refine HN.out.mono ?_
    rintro r w1 ⟨t, rfl, ht, b1⟩
    have hz := size_of ht
    have hs1 := b1.size
    rw [World.size_alloc] at hs1
    have HT : Hid (nums t = uB 0) := ht
    have HCW := bwrite_any w.heap.size w.heap.size [] t w1 (HD0.out.under b1) (by simp at hz ⊢; omega) (by omega)
    have HCX : Hid (type_of% HCW) := HCW
    have HB1 : Hid (Below w.heap.size w w1) := ((Below.refl _ _).alloc (Nat.le_refl _) _).trans (b1.mono (by simp))
    clear HCW ht b1 HN HD0
    go_wp2_with fail
    refine HCX.out.mono ?_
    rintro r w2 ⟨rfl, hb2, b2⟩
    have HD2 : Hid (∃ l : List UInt8, nums ⟨l.toArray⟩ = uB 0 ∧ l.length ≤ 10 ∧ BD w2 w.heap.size w.heap.size l) := ⟨_, by rw [nums_list, HT.out]; rfl, Nat.le_trans (Nat.le_of_eq (len_of_size t)) (by rw [hz]; exact hu), hb2⟩
    have HB2 : Hid (Below w.heap.size w w2) := HB1.out.trans (b2.mono (Nat.le_refl _))
    clear hb2 b2 HCX HB1
    go_wp2
    go_loopw [14] (fun iv wr => iv = .int .i64 0 ∧ Hid (∃ l : List UInt8, nums ⟨l.toArray⟩ = uB 0 ∧ l.length ≤ 10 ∧ BD wr w.heap.size w.heap.size l) ∧ Hid (Below w.heap.size w wr)) (fun _ _ => 0)
    case atStart => exact ⟨rfl, HD2, HB2⟩
    case round =>
      obtain ⟨rfl, HD, HB⟩ := hrel
      obtain ⟨l, hnl, hll, hbd⟩ := HD.out
      have HNL : Hid (type_of% hnl) := hnl
      have hlt0 := hbd.lt
      have HST := bstring_any w.heap.size w.heap.size l wr hbd (by omega)
      have HSU : Hid (type_of% HST) := HST
      clear HST hbd hnl
      go_wp2_with fail
      refine HSU.out.mono ?_
      rintro r w3 ⟨rfl, b3⟩
      go_wp2
      go_ret
      exact ⟨_, rfl, by rw [HNL.out]; simp, HB.out.trans (b3.mono (Nat.le_refl _))⟩
  have HR : Hid (type_of% hcells) := hcells
  clear hb hcells hn hNw hlen
  go_enter Tryz.func140, Tryz.ntmps140
  go_wp2_with fail
  refine HN.out.mono ?_
  rintro r w1 ⟨t, rfl, ht, b1⟩
  have hz := size_of ht
  have hs1 := b1.size
  rw [World.size_alloc] at hs1
  rw [Int.toNat_natCast] at hz ht
  have HT : Hid (nums t = uB n) := ht
  have HCW := bwrite_any w.heap.size w.heap.size [] t w1 (HD0.out.under b1) (by simp; omega) (by omega)
  have HCX : Hid (type_of% HCW) := HCW
  have HB1 : Hid (Below w.heap.size w w1) := ((Below.refl _ _).alloc (Nat.le_refl _) _).trans (b1.mono (by simp))
  clear HCW ht b1 HN HD0
  go_wp2_with fail
  refine HCX.out.mono ?_
  rintro r w2 ⟨rfl, hb2, b2⟩
  have HD2 : Hid (∃ l : List UInt8, nums ⟨l.toArray⟩ = uB n ++ (L.take 0).flatMap tx ∧ BD w2 w.heap.size w.heap.size l) := ⟨_, by rw [nums_list, HT.out]; simp; rfl, hb2⟩
  have HB2 : Hid (Below w.heap.size w w2) := HB1.out.trans (b2.mono (Nat.le_refl _))
  clear hb2 b2 HCX HB1
  go_wp2
  go_loopw [14] (fun iv wr => ∃ i : Nat, iv = .int .i64 (i : Int) ∧ i ≤ n ∧ Hid (∃ l : List UInt8, nums ⟨l.toArray⟩ = uB n ++ (L.take i).flatMap tx ∧ BD wr w.heap.size w.heap.size l) ∧ Hid (Below w.heap.size w wr)) (fun iv _ => n - (intOf iv).toNat)
  case atStart => exact ⟨0, rfl, by omega, HD2, HB2⟩
  case round =>
    obtain ⟨i, rfl, hin, HD, HBX⟩ := hrel
    have HB : Hid (Below N w0 wr) := HBW.out.trans (HBX.out.mono HSZ.out)
    obtain ⟨l, hnl, hbd⟩ := HD.out
    have hll : l.length ≤ 10 + i * U := by
      rw [← nums_len', hnl, List.length_append]
      have := flat_le tx U (L.take i) fun d hd => HLE.out d (List.take_subset _ _ hd)
      rw [List.length_take] at this
      have h2 : min i L.length * U ≤ i * U := Nat.mul_le_mul_right _ (Nat.min_le_left _ _)
      omega
    have hiU : i * U ≤ 200 * 400000 := Nat.mul_le_mul (by omega) hU
    have hw1 : w.heap.size < wr.heap.size := hbd.lt
    have HNL : Hid (type_of% hnl) := hnl
    have HBD : Hid (type_of% hbd) := hbd
    clear HD hnl hbd HD2 HB2
    by_cases hlt : i < n
    · have hiL : i < L.length := by rw [HL.out]; exact hlt
      have hi0 : (0 : Int) ≤ (i : Int) := by omega
      have hi1 : (i : Int) < (n : Int) := by omega
      have HS : Hid ((L.take (i + 1)).flatMap tx = (L.take i).flatMap tx ++ tx L[i]) := by
        unfold Hid
        rw [List.take_succ_eq_append_getElem hiL, List.flatMap_append]
        simp
      have HLK : Hid (type_of% (HLOOK.out L[i] (List.getElem_mem hiL))) := HLOOK.out L[i] (List.getElem_mem hiL)
      have hdl : (tx L[i]).length ≤ U := HLE.out _ (List.getElem_mem hiL)
      have HCC : Hid (∀ r, r < 2 → wr.cell? ⟨b, f + i * 2 + r, none⟩ = (DatD.cells L[i])[r]?) := fun r hr => by
        rw [HB.out.cell (p := ⟨b, f + i * 2 + r, none⟩) hbN]
        exact HR.out i hiL r hr
      obtain ⟨d, hd⟩ : ∃ d, d = L[i] := ⟨_, rfl⟩
      rw [← hd] at HS HLK HCC hdl
      clear hd
      obtain ⟨cd, hcd⟩ : ∃ cd, cd = tx d := ⟨_, rfl⟩
      rw [← hcd] at HS HLK hdl
      clear hcd
      obtain ⟨y1, s1⟩ := d
      have e0 : wr.cell? ⟨b, f + i * 2, none⟩ = some (.int .i64 y1) := HCC.out 0 (by omega)
      have e1 : wr.cell? ⟨b, f + i * 2 + 1, none⟩ = some (.string s1) := HCC.out 1 (by omega)
      have hs0 : (wr.alloc (.cells #[.int .i64 0, .string ⟨#[]⟩] 70)).heap.size = wr.heap.size + 1 := by simp
      have hbn : b ≠ wr.heap.size := by
        have := HB.out.size
        have h3 := HSZ.out
        omega
      have HNW : Hid (N ≤ wr.heap.size) := by have h3 := HSZ.out; unfold Hid; omega
      have HBA : Hid (Below N w0 (wr.alloc (.cells #[.int .i64 y1, .string s1] 70))) := HB.out.alloc HNW.out _
      have HSW : Hid (N ≤ ((wr.alloc (.cells #[.int .i64 y1, .string s1] 70))).heap.size) := by
        have h4 := HNW.out
        unfold Hid
        simp
        omega
      have HXA : Hid (Below w.heap.size w (wr.alloc (.cells #[.int .i64 y1, .string s1] 70))) := HBX.out.alloc HBX.out.size _
      have HBDA : Hid (BD (wr.alloc (.cells #[.int .i64 y1, .string s1] 70)) w.heap.size w.heap.size l) := HBD.out.under ((Below.refl _ _).alloc (Nat.le_refl _) _)
      have hza : w.heap.size ≤ ((wr.alloc (.cells #[.int .i64 y1, .string s1] 70))).heap.size := HXA.out.size
      clear HBD
      go_wp2_with fail
      refine (HLK.out _ HBA.out HSW.out).mono ?_
      rintro r w3 ⟨tt, rfl, htt, b3⟩
      have hzt := size_of htt
      have hs3 := b3.size
      have HTT : Hid (nums tt = cd) := htt
      have HCW := bwrite_any w.heap.size w.heap.size l tt w3 (HBDA.out.under b3) (by omega) (by omega)
      have HCX : Hid (type_of% HCW) := HCW
      have HB3 : Hid (Below w.heap.size w w3) := HXA.out.trans (b3.mono hza)
      clear HCW htt b3 HBDA HXA HBA HSW HLK HCC e0 e1
      go_wp2_with fail
      refine HCX.out.mono ?_
      rintro r w4 ⟨rfl, hb4, b4⟩
      have HD4 : Hid (∃ l : List UInt8, nums ⟨l.toArray⟩ = uB n ++ (L.take (i + 1)).flatMap tx ∧ BD w4 w.heap.size w.heap.size l) := ⟨_, by rw [nums_list, HNL.out, HTT.out, HS.out, List.append_assoc], hb4⟩
      have HB4 : Hid (Below w.heap.size w w4) := HB3.out.trans (b4.mono (Nat.le_refl _))
      clear hb4 b4 HCX HB3
      go_wp2
      go_roundw
      case rel => exact ⟨i + 1, by go_num, by omega, HD4, HB4⟩
      case measure => simp [intOf]; omega
    · have HTL : Hid (L.take i = L) := List.take_of_length_le (by rw [HL.out]; omega)
      rw [HTL.out] at HNL
      have HST := bstring_any w.heap.size w.heap.size l wr HBD.out (by omega)
      have HSU : Hid (type_of% HST) := HST
      clear HST HBD HTL
      go_wp2_with fail
      refine HSU.out.mono ?_
      rintro r w3 ⟨rfl, b3⟩
      go_wp2
      go_ret
      exact ⟨_, rfl, HNL.out, HBX.out.trans (b3.mono (Nat.le_refl _))⟩
theorem listText_grp (N : Nat) (w0 w : World) (tx : (Nat × Int) → List Int) (U : Nat) (hU : U ≤ 400000) (L : List (Nat × Int)) (o : Option Addr) (n cap : Nat) (hn : L.length = n) (hcap : n ≤ cap) (hmax : n ≤ 200)
    (hr : L = [] ∨ ∃ b f, o = some ⟨b, f, none⟩ ∧ b < N ∧ ∀ i (h : i < L.length) r, r < 2 → w0.cell? ⟨b, f + i * 2 + r, none⟩ = (grpCells L[i])[r]?)
    (hb : Below N w0 w) (hNw : N ≤ w.heap.size) (hlen : ∀ d ∈ L, (tx d).length ≤ U)
    (HLOOK : Hid (∀ d ∈ L, ∀ w', Below N w0 w' → N ≤ w'.heap.size → Calls Tryz.prog 139 #[.agg #[.int .i64 (d.1 : Int), .int .u8 d.2]] w' (Txt w' (tx d)))) :
    Calls Tryz.prog 137 #[.slice o n cap, .func (.func 139) #[] #[]] w (Txt w (uB n ++ L.flatMap tx)) := by
  have HBW : Hid (Below N w0 w) := hb
  have HL : Hid (L.length = n) := hn
  have HSZ : Hid (N ≤ w.heap.size) := hNw
  have HLE : Hid (∀ d ∈ L, (tx d).length ≤ U) := hlen
  have hu := uB_len10 n (by omega)
  have HN : Hid (type_of% (numberText_any (n : Int) (by omega) (by omega) (w.alloc (.cells #[.pointer none, .slice none 0 0] 223)))) := numberText_any (n : Int) (by omega) (by omega) (w.alloc (.cells #[.pointer none, .slice none 0 0] 223))
  have HD0 : Hid (BD (w.alloc (.cells #[.pointer none, .slice none 0 0] 223)) w.heap.size w.heap.size []) := BD.new w
  rcases hr with rfl | ⟨b, f, rfl, hbN, hcells⟩
  · have hn0 : n = 0 := by rw [← hn]; rfl
    subst hn0
    clear hb hn hNw hlen
    go_enter Tryz.func137, Tryz.ntmps137
    go_wp2_with fail
    refine HN.out.mono ?_
    rintro r w1 ⟨t, rfl, ht, b1⟩
    have hz := size_of ht
    have hs1 := b1.size
    rw [World.size_alloc] at hs1
    have HT : Hid (nums t = uB 0) := ht
    have HCW := bwrite_any w.heap.size w.heap.size [] t w1 (HD0.out.under b1) (by simp at hz ⊢; omega) (by omega)
    have HCX : Hid (type_of% HCW) := HCW
    have HB1 : Hid (Below w.heap.size w w1) := ((Below.refl _ _).alloc (Nat.le_refl _) _).trans (b1.mono (by simp))
    clear HCW ht b1 HN HD0
    go_wp2_with fail
    refine HCX.out.mono ?_
    rintro r w2 ⟨rfl, hb2, b2⟩
    have HD2 : Hid (∃ l : List UInt8, nums ⟨l.toArray⟩ = uB 0 ∧ l.length ≤ 10 ∧ BD w2 w.heap.size w.heap.size l) := ⟨_, by rw [nums_list, HT.out]; rfl, Nat.le_trans (Nat.le_of_eq (len_of_size t)) (by rw [hz]; exact hu), hb2⟩
    have HB2 : Hid (Below w.heap.size w w2) := HB1.out.trans (b2.mono (Nat.le_refl _))
    clear hb2 b2 HCX HB1
    go_wp2
    go_loopw [14] (fun iv wr => iv = .int .i64 0 ∧ Hid (∃ l : List UInt8, nums ⟨l.toArray⟩ = uB 0 ∧ l.length ≤ 10 ∧ BD wr w.heap.size w.heap.size l) ∧ Hid (Below w.heap.size w wr)) (fun _ _ => 0)
    case atStart => exact ⟨rfl, HD2, HB2⟩
    case round =>
      obtain ⟨rfl, HD, HB⟩ := hrel
      obtain ⟨l, hnl, hll, hbd⟩ := HD.out
      have HNL : Hid (type_of% hnl) := hnl
      have hlt0 := hbd.lt
      have HST := bstring_any w.heap.size w.heap.size l wr hbd (by omega)
      have HSU : Hid (type_of% HST) := HST
      clear HST hbd hnl
      go_wp2_with fail
      refine HSU.out.mono ?_
      rintro r w3 ⟨rfl, b3⟩
      go_wp2
      go_ret
      exact ⟨_, rfl, by rw [HNL.out]; simp, HB.out.trans (b3.mono (Nat.le_refl _))⟩
  have HR : Hid (type_of% hcells) := hcells
  clear hb hcells hn hNw hlen
  go_enter Tryz.func137, Tryz.ntmps137
  go_wp2_with fail
  refine HN.out.mono ?_
  rintro r w1 ⟨t, rfl, ht, b1⟩
  have hz := size_of ht
  have hs1 := b1.size
  rw [World.size_alloc] at hs1
  rw [Int.toNat_natCast] at hz ht
  have HT : Hid (nums t = uB n) := ht
  have HCW := bwrite_any w.heap.size w.heap.size [] t w1 (HD0.out.under b1) (by simp; omega) (by omega)
  have HCX : Hid (type_of% HCW) := HCW
  have HB1 : Hid (Below w.heap.size w w1) := ((Below.refl _ _).alloc (Nat.le_refl _) _).trans (b1.mono (by simp))
  clear HCW ht b1 HN HD0
  go_wp2_with fail
  refine HCX.out.mono ?_
  rintro r w2 ⟨rfl, hb2, b2⟩
  have HD2 : Hid (∃ l : List UInt8, nums ⟨l.toArray⟩ = uB n ++ (L.take 0).flatMap tx ∧ BD w2 w.heap.size w.heap.size l) := ⟨_, by rw [nums_list, HT.out]; simp; rfl, hb2⟩
  have HB2 : Hid (Below w.heap.size w w2) := HB1.out.trans (b2.mono (Nat.le_refl _))
  clear hb2 b2 HCX HB1
  go_wp2
  go_loopw [14] (fun iv wr => ∃ i : Nat, iv = .int .i64 (i : Int) ∧ i ≤ n ∧ Hid (∃ l : List UInt8, nums ⟨l.toArray⟩ = uB n ++ (L.take i).flatMap tx ∧ BD wr w.heap.size w.heap.size l) ∧ Hid (Below w.heap.size w wr)) (fun iv _ => n - (intOf iv).toNat)
  case atStart => exact ⟨0, rfl, by omega, HD2, HB2⟩
  case round =>
    obtain ⟨i, rfl, hin, HD, HBX⟩ := hrel
    have HB : Hid (Below N w0 wr) := HBW.out.trans (HBX.out.mono HSZ.out)
    obtain ⟨l, hnl, hbd⟩ := HD.out
    have hll : l.length ≤ 10 + i * U := by
      rw [← nums_len', hnl, List.length_append]
      have := flat_le tx U (L.take i) fun d hd => HLE.out d (List.take_subset _ _ hd)
      rw [List.length_take] at this
      have h2 : min i L.length * U ≤ i * U := Nat.mul_le_mul_right _ (Nat.min_le_left _ _)
      omega
    have hiU : i * U ≤ 200 * 400000 := Nat.mul_le_mul (by omega) hU
    have hw1 : w.heap.size < wr.heap.size := hbd.lt
    have HNL : Hid (type_of% hnl) := hnl
    have HBD : Hid (type_of% hbd) := hbd
    clear HD hnl hbd HD2 HB2
    by_cases hlt : i < n
    · have hiL : i < L.length := by rw [HL.out]; exact hlt
      have hi0 : (0 : Int) ≤ (i : Int) := by omega
      have hi1 : (i : Int) < (n : Int) := by omega
      have HS : Hid ((L.take (i + 1)).flatMap tx = (L.take i).flatMap tx ++ tx L[i]) := by
        unfold Hid
        rw [List.take_succ_eq_append_getElem hiL, List.flatMap_append]
        simp
      have HLK : Hid (type_of% (HLOOK.out L[i] (List.getElem_mem hiL))) := HLOOK.out L[i] (List.getElem_mem hiL)
      have hdl : (tx L[i]).length ≤ U := HLE.out _ (List.getElem_mem hiL)
      have HCC : Hid (∀ r, r < 2 → wr.cell? ⟨b, f + i * 2 + r, none⟩ = (grpCells L[i])[r]?) := fun r hr => by
        rw [HB.out.cell (p := ⟨b, f + i * 2 + r, none⟩) hbN]
        exact HR.out i hiL r hr
      obtain ⟨d, hd⟩ : ∃ d, d = L[i] := ⟨_, rfl⟩
      rw [← hd] at HS HLK HCC hdl
      clear hd
      obtain ⟨cd, hcd⟩ : ∃ cd, cd = tx d := ⟨_, rfl⟩
      rw [← hcd] at HS HLK hdl
      clear hcd
      obtain ⟨z1, k1⟩ := d
      have e0 : wr.cell? ⟨b, f + i * 2, none⟩ = some (.int .i64 (z1 : Int)) := HCC.out 0 (by omega)
      have e1 : wr.cell? ⟨b, f + i * 2 + 1, none⟩ = some (.int .u8 k1) := HCC.out 1 (by omega)
      have hs0 : (wr.alloc (.cells #[.int .i64 0, .int .u8 0] 185)).heap.size = wr.heap.size + 1 := by simp
      have hbn : b ≠ wr.heap.size := by
        have := HB.out.size
        have h3 := HSZ.out
        omega
      have HNW : Hid (N ≤ wr.heap.size) := by have h3 := HSZ.out; unfold Hid; omega
      have HBA : Hid (Below N w0 (wr.alloc (.cells #[.int .i64 (z1 : Int), .int .u8 k1] 185))) := HB.out.alloc HNW.out _
      have HSW : Hid (N ≤ ((wr.alloc (.cells #[.int .i64 (z1 : Int), .int .u8 k1] 185))).heap.size) := by
        have h4 := HNW.out
        unfold Hid
        simp
        omega
      have HXA : Hid (Below w.heap.size w (wr.alloc (.cells #[.int .i64 (z1 : Int), .int .u8 k1] 185))) := HBX.out.alloc HBX.out.size _
      have HBDA : Hid (BD (wr.alloc (.cells #[.int .i64 (z1 : Int), .int .u8 k1] 185)) w.heap.size w.heap.size l) := HBD.out.under ((Below.refl _ _).alloc (Nat.le_refl _) _)
      have hza : w.heap.size ≤ ((wr.alloc (.cells #[.int .i64 (z1 : Int), .int .u8 k1] 185))).heap.size := HXA.out.size
      clear HBD
      go_wp2_with fail
      refine (HLK.out _ HBA.out HSW.out).mono ?_
      rintro r w3 ⟨tt, rfl, htt, b3⟩
      have hzt := size_of htt
      have hs3 := b3.size
      have HTT : Hid (nums tt = cd) := htt
      have HCW := bwrite_any w.heap.size w.heap.size l tt w3 (HBDA.out.under b3) (by omega) (by omega)
      have HCX : Hid (type_of% HCW) := HCW
      have HB3 : Hid (Below w.heap.size w w3) := HXA.out.trans (b3.mono hza)
      clear HCW htt b3 HBDA HXA HBA HSW HLK HCC e0 e1
      go_wp2_with fail
      refine HCX.out.mono ?_
      rintro r w4 ⟨rfl, hb4, b4⟩
      have HD4 : Hid (∃ l : List UInt8, nums ⟨l.toArray⟩ = uB n ++ (L.take (i + 1)).flatMap tx ∧ BD w4 w.heap.size w.heap.size l) := ⟨_, by rw [nums_list, HNL.out, HTT.out, HS.out, List.append_assoc], hb4⟩
      have HB4 : Hid (Below w.heap.size w w4) := HB3.out.trans (b4.mono (Nat.le_refl _))
      clear hb4 b4 HCX HB3
      go_wp2
      go_roundw
      case rel => exact ⟨i + 1, by go_num, by omega, HD4, HB4⟩
      case measure => simp [intOf]; omega
    · have HTL : Hid (L.take i = L) := List.take_of_length_le (by rw [HL.out]; omega)
      rw [HTL.out] at HNL
      have HST := bstring_any w.heap.size w.heap.size l wr HBD.out (by omega)
      have HSU : Hid (type_of% HST) := HST
      clear HST HBD HTL
      go_wp2_with fail
      refine HSU.out.mono ?_
      rintro r w3 ⟨rfl, b3⟩
      go_wp2
      go_ret
      exact ⟨_, rfl, HNL.out, HBX.out.trans (b3.mono (Nat.le_refl _))⟩
theorem listText_kin (N : Nat) (w0 w : World) (tx : Int → List Int) (U : Nat) (hU : U ≤ 400000) (L : List Int) (o : Option Addr) (n cap : Nat) (hn : L.length = n) (hcap : n ≤ cap) (hmax : n ≤ 200)
    (hr : L = [] ∨ ∃ b f, o = some ⟨b, f, none⟩ ∧ b < N ∧ ∀ i (h : i < L.length) r, r < 1 → w0.cell? ⟨b, f + i * 1 + r, none⟩ = ([Value.int .u8 L[i]])[r]?)
    (hb : Below N w0 w) (hNw : N ≤ w.heap.size) (hlen : ∀ d ∈ L, (tx d).length ≤ U)
    (HLOOK : Hid (∀ d ∈ L, ∀ w', Below N w0 w' → N ≤ w'.heap.size → Calls Tryz.prog 123 #[.int .u8 d] w' (Txt w' (tx d)))) :
    Calls Tryz.prog 122 #[.slice o n cap, .func (.func 123) #[] #[]] w (Txt w (uB n ++ L.flatMap tx)) := by
  have HBW : Hid (Below N w0 w) := hb
  have HL : Hid (L.length = n) := hn
  have HSZ : Hid (N ≤ w.heap.size) := hNw
  have HLE : Hid (∀ d ∈ L, (tx d).length ≤ U) := hlen
  have hu := uB_len10 n (by omega)
  have HN : Hid (type_of% (numberText_any (n : Int) (by omega) (by omega) (w.alloc (.cells #[.pointer none, .slice none 0 0] 223)))) := numberText_any (n : Int) (by omega) (by omega) (w.alloc (.cells #[.pointer none, .slice none 0 0] 223))
  have HD0 : Hid (BD (w.alloc (.cells #[.pointer none, .slice none 0 0] 223)) w.heap.size w.heap.size []) := BD.new w
  rcases hr with rfl | ⟨b, f, rfl, hbN, hcells⟩
  · have hn0 : n = 0 := by rw [← hn]; rfl
    subst hn0
    clear hb hn hNw hlen
    go_enter Tryz.func122, Tryz.ntmps122
    go_wp2_with fail
    refine HN.out.mono ?_
    rintro r w1 ⟨t, rfl, ht, b1⟩
    have hz := size_of ht
    have hs1 := b1.size
    rw [World.size_alloc] at hs1
    have HT : Hid (nums t = uB 0) := ht
    have HCW := bwrite_any w.heap.size w.heap.size [] t w1 (HD0.out.under b1) (by simp at hz ⊢; omega) (by omega)
    have HCX : Hid (type_of% HCW) := HCW
    have HB1 : Hid (Below w.heap.size w w1) := ((Below.refl _ _).alloc (Nat.le_refl _) _).trans (b1.mono (by simp))
    clear HCW ht b1 HN HD0
    go_wp2_with fail
    refine HCX.out.mono ?_
    rintro r w2 ⟨rfl, hb2, b2⟩
    have HD2 : Hid (∃ l : List UInt8, nums ⟨l.toArray⟩ = uB 0 ∧ l.length ≤ 10 ∧ BD w2 w.heap.size w.heap.size l) := ⟨_, by rw [nums_list, HT.out]; rfl, Nat.le_trans (Nat.le_of_eq (len_of_size t)) (by rw [hz]; exact hu), hb2⟩
    have HB2 : Hid (Below w.heap.size w w2) := HB1.out.trans (b2.mono (Nat.le_refl _))
    clear hb2 b2 HCX HB1
    go_wp2
    go_loopw [14] (fun iv wr => iv = .int .i64 0 ∧ Hid (∃ l : List UInt8, nums ⟨l.toArray⟩ = uB 0 ∧ l.length ≤ 10 ∧ BD wr w.heap.size w.heap.size l) ∧ Hid (Below w.heap.size w wr)) (fun _ _ => 0)
    case atStart => exact ⟨rfl, HD2, HB2⟩
    case round =>
      obtain ⟨rfl, HD, HB⟩ := hrel
      obtain ⟨l, hnl, hll, hbd⟩ := HD.out
      have HNL : Hid (type_of% hnl) := hnl
      have hlt0 := hbd.lt
      have HST := bstring_any w.heap.size w.heap.size l wr hbd (by omega)
      have HSU : Hid (type_of% HST) := HST
      clear HST hbd hnl
      go_wp2_with fail
      refine HSU.out.mono ?_
      rintro r w3 ⟨rfl, b3⟩
      go_wp2
      go_ret
      exact ⟨_, rfl, by rw [HNL.out]; simp, HB.out.trans (b3.mono (Nat.le_refl _))⟩
  have HR : Hid (type_of% hcells) := hcells
  clear hb hcells hn hNw hlen
  go_enter Tryz.func122, Tryz.ntmps122
  go_wp2_with fail
  refine HN.out.mono ?_
  rintro r w1 ⟨t, rfl, ht, b1⟩
  have hz := size_of ht
  have hs1 := b1.size
  rw [World.size_alloc] at hs1
  rw [Int.toNat_natCast] at hz ht
  have HT : Hid (nums t = uB n) := ht
  have HCW := bwrite_any w.heap.size w.heap.size [] t w1 (HD0.out.under b1) (by simp; omega) (by omega)
  have HCX : Hid (type_of% HCW) := HCW
  have HB1 : Hid (Below w.heap.size w w1) := ((Below.refl _ _).alloc (Nat.le_refl _) _).trans (b1.mono (by simp))
  clear HCW ht b1 HN HD0
  go_wp2_with fail
  refine HCX.out.mono ?_
  rintro r w2 ⟨rfl, hb2, b2⟩
  have HD2 : Hid (∃ l : List UInt8, nums ⟨l.toArray⟩ = uB n ++ (L.take 0).flatMap tx ∧ BD w2 w.heap.size w.heap.size l) := ⟨_, by rw [nums_list, HT.out]; simp; rfl, hb2⟩
  have HB2 : Hid (Below w.heap.size w w2) := HB1.out.trans (b2.mono (Nat.le_refl _))
  clear hb2 b2 HCX HB1
  go_wp2
  go_loopw [14] (fun iv wr => ∃ i : Nat, iv = .int .i64 (i : Int) ∧ i ≤ n ∧ Hid (∃ l : List UInt8, nums ⟨l.toArray⟩ = uB n ++ (L.take i).flatMap tx ∧ BD wr w.heap.size w.heap.size l) ∧ Hid (Below w.heap.size w wr)) (fun iv _ => n - (intOf iv).toNat)
  case atStart => exact ⟨0, rfl, by omega, HD2, HB2⟩
  case round =>
    obtain ⟨i, rfl, hin, HD, HBX⟩ := hrel
    have HB : Hid (Below N w0 wr) := HBW.out.trans (HBX.out.mono HSZ.out)
    obtain ⟨l, hnl, hbd⟩ := HD.out
    have hll : l.length ≤ 10 + i * U := by
      rw [← nums_len', hnl, List.length_append]
      have := flat_le tx U (L.take i) fun d hd => HLE.out d (List.take_subset _ _ hd)
      rw [List.length_take] at this
      have h2 : min i L.length * U ≤ i * U := Nat.mul_le_mul_right _ (Nat.min_le_left _ _)
      omega
    have hiU : i * U ≤ 200 * 400000 := Nat.mul_le_mul (by omega) hU
    have hw1 : w.heap.size < wr.heap.size := hbd.lt
    have HNL : Hid (type_of% hnl) := hnl
    have HBD : Hid (type_of% hbd) := hbd
    clear HD hnl hbd HD2 HB2
    by_cases hlt : i < n
    · have hiL : i < L.length := by rw [HL.out]; exact hlt
      have hi0 : (0 : Int) ≤ (i : Int) := by omega
      have hi1 : (i : Int) < (n : Int) := by omega
      have HS : Hid ((L.take (i + 1)).flatMap tx = (L.take i).flatMap tx ++ tx L[i]) := by
        unfold Hid
        rw [List.take_succ_eq_append_getElem hiL, List.flatMap_append]
        simp
      have HLK : Hid (type_of% (HLOOK.out L[i] (List.getElem_mem hiL))) := HLOOK.out L[i] (List.getElem_mem hiL)
      have hdl : (tx L[i]).length ≤ U := HLE.out _ (List.getElem_mem hiL)
      have HCC : Hid (∀ r, r < 1 → wr.cell? ⟨b, f + i * 1 + r, none⟩ = ([Value.int .u8 L[i]])[r]?) := fun r hr => by
        rw [HB.out.cell (p := ⟨b, f + i * 1 + r, none⟩) hbN]
        exact HR.out i hiL r hr
      obtain ⟨d, hd⟩ : ∃ d, d = L[i] := ⟨_, rfl⟩
      rw [← hd] at HS HLK HCC hdl
      clear hd
      obtain ⟨cd, hcd⟩ : ∃ cd, cd = tx d := ⟨_, rfl⟩
      rw [← hcd] at HS HLK hdl
      clear hcd
      have e0 : wr.cell? ⟨b, f + i * 1, none⟩ = some (.int .u8 d) := HCC.out 0 (by omega)
      have HD1 : Hid (f + i * 1 = f + i) := by unfold Hid; omega
      rw [HD1.out] at e0
      have HSW : Hid (N ≤ wr.heap.size) := by have h3 := HSZ.out; unfold Hid; omega
      have HBA : Hid (Below N w0 wr) := HB
      have HXA : Hid (Below w.heap.size w wr) := HBX
      have HBDA : Hid (BD wr w.heap.size w.heap.size l) := HBD
      have hza : w.heap.size ≤ wr.heap.size := HXA.out.size
      clear HBD
      go_wp2_with fail
      refine (HLK.out _ HBA.out HSW.out).mono ?_
      rintro r w3 ⟨tt, rfl, htt, b3⟩
      have hzt := size_of htt
      have hs3 := b3.size
      have HTT : Hid (nums tt = cd) := htt
      have HCW := bwrite_any w.heap.size w.heap.size l tt w3 (HBDA.out.under b3) (by omega) (by omega)
      have HCX : Hid (type_of% HCW) := HCW
      have HB3 : Hid (Below w.heap.size w w3) := HXA.out.trans (b3.mono hza)
      clear HCW htt b3 HBDA HXA HBA HSW HLK HCC e0
      go_wp2_with fail
      refine HCX.out.mono ?_
      rintro r w4 ⟨rfl, hb4, b4⟩
      have HD4 : Hid (∃ l : List UInt8, nums ⟨l.toArray⟩ = uB n ++ (L.take (i + 1)).flatMap tx ∧ BD w4 w.heap.size w.heap.size l) := ⟨_, by rw [nums_list, HNL.out, HTT.out, HS.out, List.append_assoc], hb4⟩
      have HB4 : Hid (Below w.heap.size w w4) := HB3.out.trans (b4.mono (Nat.le_refl _))
      clear hb4 b4 HCX HB3
      go_wp2
      go_roundw
      case rel => exact ⟨i + 1, by go_num, by omega, HD4, HB4⟩
      case measure => simp [intOf]; omega
    · have HTL : Hid (L.take i = L) := List.take_of_length_le (by rw [HL.out]; omega)
      rw [HTL.out] at HNL
      have HST := bstring_any w.heap.size w.heap.size l wr HBD.out (by omega)
      have HSU : Hid (type_of% HST) := HST
      clear HST HBD HTL
      go_wp2_with fail
      refine HSU.out.mono ?_
      rintro r w3 ⟨rfl, b3⟩
      go_wp2
      go_ret
      exact ⟨_, rfl, HNL.out, HBX.out.trans (b3.mono (Nat.le_refl _))⟩
theorem listText_int (N : Nat) (w0 w : World) (tx : Int → List Int) (U : Nat) (hU : U ≤ 400000) (L : List Int) (o : Option Addr) (n cap : Nat) (hn : L.length = n) (hcap : n ≤ cap) (hmax : n ≤ 200)
    (hr : L = [] ∨ ∃ b f, o = some ⟨b, f, none⟩ ∧ b < N ∧ ∀ i (h : i < L.length) r, r < 1 → w0.cell? ⟨b, f + i * 1 + r, none⟩ = ([Value.int .i64 L[i]])[r]?)
    (hb : Below N w0 w) (hNw : N ≤ w.heap.size) (hlen : ∀ d ∈ L, (tx d).length ≤ U)
    (HLOOK : Hid (∀ d ∈ L, ∀ w', Below N w0 w' → N ≤ w'.heap.size → Calls Tryz.prog 126 #[.int .i64 d] w' (Txt w' (tx d)))) :
    Calls Tryz.prog 134 #[.slice o n cap, .func (.func 126) #[] #[]] w (Txt w (uB n ++ L.flatMap tx)) := by
  have HBW : Hid (Below N w0 w) := hb
  have HL : Hid (L.length = n) := hn
  have HSZ : Hid (N ≤ w.heap.size) := hNw
  have HLE : Hid (∀ d ∈ L, (tx d).length ≤ U) := hlen
  have hu := uB_len10 n (by omega)
  have HN : Hid (type_of% (numberText_any (n : Int) (by omega) (by omega) (w.alloc (.cells #[.pointer none, .slice none 0 0] 223)))) := numberText_any (n : Int) (by omega) (by omega) (w.alloc (.cells #[.pointer none, .slice none 0 0] 223))
  have HD0 : Hid (BD (w.alloc (.cells #[.pointer none, .slice none 0 0] 223)) w.heap.size w.heap.size []) := BD.new w
  rcases hr with rfl | ⟨b, f, rfl, hbN, hcells⟩
  · have hn0 : n = 0 := by rw [← hn]; rfl
    subst hn0
    clear hb hn hNw hlen
    go_enter Tryz.func134, Tryz.ntmps134
    go_wp2_with fail
    refine HN.out.mono ?_
    rintro r w1 ⟨t, rfl, ht, b1⟩
    have hz := size_of ht
    have hs1 := b1.size
    rw [World.size_alloc] at hs1
    have HT : Hid (nums t = uB 0) := ht
    have HCW := bwrite_any w.heap.size w.heap.size [] t w1 (HD0.out.under b1) (by simp at hz ⊢; omega) (by omega)
    have HCX : Hid (type_of% HCW) := HCW
    have HB1 : Hid (Below w.heap.size w w1) := ((Below.refl _ _).alloc (Nat.le_refl _) _).trans (b1.mono (by simp))
    clear HCW ht b1 HN HD0
    go_wp2_with fail
    refine HCX.out.mono ?_
    rintro r w2 ⟨rfl, hb2, b2⟩
    have HD2 : Hid (∃ l : List UInt8, nums ⟨l.toArray⟩ = uB 0 ∧ l.length ≤ 10 ∧ BD w2 w.heap.size w.heap.size l) := ⟨_, by rw [nums_list, HT.out]; rfl, Nat.le_trans (Nat.le_of_eq (len_of_size t)) (by rw [hz]; exact hu), hb2⟩
    have HB2 : Hid (Below w.heap.size w w2) := HB1.out.trans (b2.mono (Nat.le_refl _))
    clear hb2 b2 HCX HB1
    go_wp2
    go_loopw [14] (fun iv wr => iv = .int .i64 0 ∧ Hid (∃ l : List UInt8, nums ⟨l.toArray⟩ = uB 0 ∧ l.length ≤ 10 ∧ BD wr w.heap.size w.heap.size l) ∧ Hid (Below w.heap.size w wr)) (fun _ _ => 0)
    case atStart => exact ⟨rfl, HD2, HB2⟩
    case round =>
      obtain ⟨rfl, HD, HB⟩ := hrel
      obtain ⟨l, hnl, hll, hbd⟩ := HD.out
      have HNL : Hid (type_of% hnl) := hnl
      have hlt0 := hbd.lt
      have HST := bstring_any w.heap.size w.heap.size l wr hbd (by omega)
      have HSU : Hid (type_of% HST) := HST
      clear HST hbd hnl
      go_wp2_with fail
      refine HSU.out.mono ?_
      rintro r w3 ⟨rfl, b3⟩
      go_wp2
      go_ret
      exact ⟨_, rfl, by rw [HNL.out]; simp, HB.out.trans (b3.mono (Nat.le_refl _))⟩
  have HR : Hid (type_of% hcells) := hcells
  clear hb hcells hn hNw hlen
  go_enter Tryz.func134, Tryz.ntmps134
  go_wp2_with fail
  refine HN.out.mono ?_
  rintro r w1 ⟨t, rfl, ht, b1⟩
  have hz := size_of ht
  have hs1 := b1.size
  rw [World.size_alloc] at hs1
  rw [Int.toNat_natCast] at hz ht
  have HT : Hid (nums t = uB n) := ht
  have HCW := bwrite_any w.heap.size w.heap.size [] t w1 (HD0.out.under b1) (by simp; omega) (by omega)
  have HCX : Hid (type_of% HCW) := HCW
  have HB1 : Hid (Below w.heap.size w w1) := ((Below.refl _ _).alloc (Nat.le_refl _) _).trans (b1.mono (by simp))
  clear HCW ht b1 HN HD0
  go_wp2_with fail
  refine HCX.out.mono ?_
  rintro r w2 ⟨rfl, hb2, b2⟩
  have HD2 : Hid (∃ l : List UInt8, nums ⟨l.toArray⟩ = uB n ++ (L.take 0).flatMap tx ∧ BD w2 w.heap.size w.heap.size l) := ⟨_, by rw [nums_list, HT.out]; simp; rfl, hb2⟩
  have HB2 : Hid (Below w.heap.size w w2) := HB1.out.trans (b2.mono (Nat.le_refl _))
  clear hb2 b2 HCX HB1
  go_wp2
  go_loopw [14] (fun iv wr => ∃ i : Nat, iv = .int .i64 (i : Int) ∧ i ≤ n ∧ Hid (∃ l : List UInt8, nums ⟨l.toArray⟩ = uB n ++ (L.take i).flatMap tx ∧ BD wr w.heap.size w.heap.size l) ∧ Hid (Below w.heap.size w wr)) (fun iv _ => n - (intOf iv).toNat)
  case atStart => exact ⟨0, rfl, by omega, HD2, HB2⟩
  case round =>
    obtain ⟨i, rfl, hin, HD, HBX⟩ := hrel
    have HB : Hid (Below N w0 wr) := HBW.out.trans (HBX.out.mono HSZ.out)
    obtain ⟨l, hnl, hbd⟩ := HD.out
    have hll : l.length ≤ 10 + i * U := by
      rw [← nums_len', hnl, List.length_append]
      have := flat_le tx U (L.take i) fun d hd => HLE.out d (List.take_subset _ _ hd)
      rw [List.length_take] at this
      have h2 : min i L.length * U ≤ i * U := Nat.mul_le_mul_right _ (Nat.min_le_left _ _)
      omega
    have hiU : i * U ≤ 200 * 400000 := Nat.mul_le_mul (by omega) hU
    have hw1 : w.heap.size < wr.heap.size := hbd.lt
    have HNL : Hid (type_of% hnl) := hnl
    have HBD : Hid (type_of% hbd) := hbd
    clear HD hnl hbd HD2 HB2
    by_cases hlt : i < n
    · have hiL : i < L.length := by rw [HL.out]; exact hlt
      have hi0 : (0 : Int) ≤ (i : Int) := by omega
      have hi1 : (i : Int) < (n : Int) := by omega
      have HS : Hid ((L.take (i + 1)).flatMap tx = (L.take i).flatMap tx ++ tx L[i]) := by
        unfold Hid
        rw [List.take_succ_eq_append_getElem hiL, List.flatMap_append]
        simp
      have HLK : Hid (type_of% (HLOOK.out L[i] (List.getElem_mem hiL))) := HLOOK.out L[i] (List.getElem_mem hiL)
      have hdl : (tx L[i]).length ≤ U := HLE.out _ (List.getElem_mem hiL)
      have HCC : Hid (∀ r, r < 1 → wr.cell? ⟨b, f + i * 1 + r, none⟩ = ([Value.int .i64 L[i]])[r]?) := fun r hr => by
        rw [HB.out.cell (p := ⟨b, f + i * 1 + r, none⟩) hbN]
        exact HR.out i hiL r hr
      obtain ⟨d, hd⟩ : ∃ d, d = L[i] := ⟨_, rfl⟩
      rw [← hd] at HS HLK HCC hdl
      clear hd
      obtain ⟨cd, hcd⟩ : ∃ cd, cd = tx d := ⟨_, rfl⟩
      rw [← hcd] at HS HLK hdl
      clear hcd
      have e0 : wr.cell? ⟨b, f + i * 1, none⟩ = some (.int .i64 d) := HCC.out 0 (by omega)
      have HD1 : Hid (f + i * 1 = f + i) := by unfold Hid; omega
      rw [HD1.out] at e0
      have HSW : Hid (N ≤ wr.heap.size) := by have h3 := HSZ.out; unfold Hid; omega
      have HBA : Hid (Below N w0 wr) := HB
      have HXA : Hid (Below w.heap.size w wr) := HBX
      have HBDA : Hid (BD wr w.heap.size w.heap.size l) := HBD
      have hza : w.heap.size ≤ wr.heap.size := HXA.out.size
      clear HBD
      go_wp2_with fail
      refine (HLK.out _ HBA.out HSW.out).mono ?_
      rintro r w3 ⟨tt, rfl, htt, b3⟩
      have hzt := size_of htt
      have hs3 := b3.size
      have HTT : Hid (nums tt = cd) := htt
      have HCW := bwrite_any w.heap.size w.heap.size l tt w3 (HBDA.out.under b3) (by omega) (by omega)
      have HCX : Hid (type_of% HCW) := HCW
      have HB3 : Hid (Below w.heap.size w w3) := HXA.out.trans (b3.mono hza)
      clear HCW htt b3 HBDA HXA HBA HSW HLK HCC e0
      go_wp2_with fail
      refine HCX.out.mono ?_
      rintro r w4 ⟨rfl, hb4, b4⟩
      have HD4 : Hid (∃ l : List UInt8, nums ⟨l.toArray⟩ = uB n ++ (L.take (i + 1)).flatMap tx ∧ BD w4 w.heap.size w.heap.size l) := ⟨_, by rw [nums_list, HNL.out, HTT.out, HS.out, List.append_assoc], hb4⟩
      have HB4 : Hid (Below w.heap.size w w4) := HB3.out.trans (b4.mono (Nat.le_refl _))
      clear hb4 b4 HCX HB3
      go_wp2
      go_roundw
      case rel => exact ⟨i + 1, by go_num, by omega, HD4, HB4⟩
      case measure => simp [intOf]; omega
    · have HTL : Hid (L.take i = L) := List.take_of_length_le (by rw [HL.out]; omega)
      rw [HTL.out] at HNL
      have HST := bstring_any w.heap.size w.heap.size l wr HBD.out (by omega)
      have HSU : Hid (type_of% HST) := HST
      clear HST HBD HTL
      go_wp2_with fail
      refine HSU.out.mono ?_
      rintro r w3 ⟨rfl, b3⟩
      go_wp2
      go_ret
      exact ⟨_, rfl, HNL.out, HBX.out.trans (b3.mono (Nat.le_refl _))⟩
end Go.Proofs.YtakpkdckajjooaaGreatDoor
