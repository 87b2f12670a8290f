/-
  What the program's own nest.Write does.
-/
import Derived.Test.YtmbficofcmfmlaaDoorNRow
import Derived.Test.YtmbficofcmfmlaaDoorNBld
namespace Go.Proofs.YtmbficofcmfmlaaDoor
open Go.RowKit

theorem nums_list (l : List UInt8) (s : ByteArray) : nums ⟨(l ++ s.data.toList).toArray⟩ = nums ⟨l.toArray⟩ ++ nums s := by
  unfold nums
  simp
theorem nums_nil' : nums ⟨([] : List UInt8).toArray⟩ = [] := rfl
theorem nums_len' (l : List UInt8) : (nums ⟨l.toArray⟩).length = l.length := by
  unfold nums
  simp
/-- What is written of a body. -/
def bodyT (V : List V4) : List Int := V.flatMap V4.text
theorem bodyT_len : ∀ (V : List V4), (∀ v ∈ V, v.text.length ≤ 1001) → (bodyT V).length ≤ V.length * 1001
  | [], _ => by simp [bodyT]
  | v :: V, h => by
    have h1 := h v (by simp)
    have h2 := bodyT_len V fun x hx => h x (by simp [hx])
    unfold bodyT at h2 ⊢
    rw [List.flatMap_cons, List.length_append, List.length_cons]
    omega
set_option maxHeartbeats 2000000 in
set_option maxRecDepth 1000000 in
theorem nwrite_bad (o : Option Addr) (n cap : Nat) (e : Int) (_he : (e == 0) = false) (w : World) (HC : Hid (Calls Tryd.prog 14 #[.slice o n cap] w fun r w' => r = .returned (.int .i64 e) ∧ Below w.heap.size w w')) :
    Calls Tryd.prog 11 #[.slice o n cap] w fun r w' => r = .returned (.tuple #[.string ⟨#[]⟩, .int .i64 e]) ∧ Below w.heap.size w w' := by
  have hne : (e != 0) = true := by rw [bne, _he]; rfl
  go_enter Tryd.func11, Tryd.ntmps11
  go_wp2_with fail
  refine HC.out.mono ?_
  rintro r w1 ⟨rfl, b1⟩
  go_wp2
  go_ret2
  exact ⟨rfl, b1⟩
set_option maxHeartbeats 4000000 in
set_option maxRecDepth 1000000 in
theorem nwrite_ok (o : Option Addr) (cap n : Nat) (L : List InsD) (hl : L.length = n) (hn : n ≤ 200) (_hcap : n ≤ cap) (w : World) (h : LD w o L) (HC : Hid (Calls Tryd.prog 14 #[.slice o n cap] w fun r w' => r = .returned (.int .i64 0) ∧ Below w.heap.size w w'))
    (HLN : Hid (∀ v ∈ L.map InsD.val, v.text.length ≤ 1001))
    (HW : Hid (∀ d ∈ L, ∀ w', Below w.heap.size w w' → Calls Tryd.prog 29 #[.agg #[.int .u8 d.op, .int .i64 d.A, .int .i64 d.B, .slice d.o d.n d.cap]] w' fun r w'' => ∃ t, r = .returned (.tuple #[.string t, .int .i64 0]) ∧ nums t = d.val.text ∧ Below w'.heap.size w' w'')) :
    Calls Tryd.prog 11 #[.slice o n cap] w fun r w' => ∃ t, r = .returned (.tuple #[.string t, .int .i64 0]) ∧ nums t = bodyT (L.map InsD.val) ∧ Below w.heap.size w w' := by
  have HLn : Hid (L.length = n) := hl
  have HLD : Hid (LD w o L) := h
  have hni : (n : Int) ≤ 200 := by omega
  clear hl h
  go_enter Tryd.func11, Tryd.ntmps11
  go_wp2_with fail
  refine HC.out.mono ?_
  rintro r w1 ⟨rfl, b1⟩
  have HB1 : Hid (Below w.heap.size w w1) := b1
  have hs1 := b1.size
  have HD0 : Hid (∃ l : List UInt8, nums ⟨l.toArray⟩ = bodyT ((L.take 0).map InsD.val) ∧ BD (w1.alloc (.cells #[.pointer none, .slice none 0 0] 61)) w1.heap.size w1.heap.size l) := ⟨[], by simp [bodyT]; exact nums_nil', BD.new w1⟩
  have HB2 : Hid (Below w.heap.size w (w1.alloc (.cells #[.pointer none, .slice none 0 0] 61))) := b1.alloc hs1 _
  clear b1 HC
  go_wp2
  go_loopw [17] (fun i wr => ∃ k : Nat, i = .int .i64 k ∧ k ≤ n ∧ Hid (∃ l : List UInt8, nums ⟨l.toArray⟩ = bodyT ((L.take k).map InsD.val) ∧ BD wr w1.heap.size w1.heap.size l) ∧ Hid (Below w.heap.size w wr)) (fun i _ => n - (intOf i).toNat)
  case atStart => exact ⟨0, rfl, by omega, HD0, HB2⟩
  case round =>
    obtain ⟨k, rfl, hk, HD, HB⟩ := hrel
    clear HD0 HB2
    obtain ⟨l, hnl, hbd⟩ := HD.out
    have HNL : Hid (type_of% hnl) := hnl
    have HBD : Hid (type_of% hbd) := hbd
    have hw1 : w1.heap.size < wr.heap.size := hbd.lt
    clear HD hnl hbd
    by_cases hlt : k < n
    · have hkl : k < L.length := by rw [HLn.out]; exact hlt
      have hmem : L[k] ∈ L := List.getElem_mem hkl
      rcases HLD.out.2 with h0 | ⟨b, f, rfl, hbw, hc⟩
      · exfalso; rw [h0] at hkl; simp at hkl
      obtain ⟨m0, m1, m2, m3⟩ := hc k hkl
      have HWd := HW.out _ hmem
      have hll : l.length ≤ k * 1001 := by
        rw [← nums_len', HNL.out]
        refine Nat.le_trans (bodyT_len _ fun v hv => HLN.out v ?_) ?_
        · exact (List.map_subset _ (List.take_subset _ _)) hv
        · simp only [List.length_map, List.length_take]
          exact Nat.mul_le_mul_right _ (Nat.min_le_left _ _)
      have hdl : (L[k]).val.text.length ≤ 1001 := HLN.out _ (List.mem_map_of_mem hmem)
      have HTK : Hid (bodyT ((L.take (k + 1)).map InsD.val) = bodyT ((L.take k).map InsD.val) ++ (L[k]).val.text) := by
        unfold Hid bodyT
        rw [List.take_succ_eq_append_getElem hkl, List.map_append, List.flatMap_append]
        simp
      have e0 := HB.out.cell (p := ⟨b, f + k * 4, none⟩) hbw
      have e1 := HB.out.cell (p := ⟨b, f + k * 4 + 1, none⟩) hbw
      have e2 := HB.out.cell (p := ⟨b, f + k * 4 + 2, none⟩) hbw
      have e3 := HB.out.cell (p := ⟨b, f + k * 4 + 3, none⟩) hbw
      rw [m0] at e0
      rw [m1] at e1
      rw [m2] at e2
      rw [m3] at e3
      generalize L[k] = d at e0 e1 e2 e3 HWd HTK hdl
      have HWe : Hid (type_of% HWd) := HWd
      clear hc m0 m1 m2 m3 hmem HWd
      have hki0 : (0 : Int) ≤ (k : Int) := by omega
      have hki1 : (k : Int) < (n : Int) := by omega
      have hbA := HBD.out.under ((Below.refl _ _).alloc (Nat.le_refl _) (.cells #[.int .u8 d.op, .int .i64 d.A, .int .i64 d.B, .slice d.o d.n d.cap] 52))
      have HBA : Hid (type_of% hbA) := hbA
      clear hbA HBD
      go_wp2_with fail
      refine (HWe.out _ (HB.out.alloc (by omega) _)).mono ?_
      rintro r w2 ⟨t, rfl, ht, b2⟩
      have hsz : t.size = d.val.text.length := by rw [← nums_length, ht]
      have hw2 := b2.size
      rw [World.size_alloc] at hw2
      have HCW := bwrite_any w1.heap.size w1.heap.size l t w2 (HBA.out.under b2) (by omega) (by omega)
      have HCX : Hid (type_of% HCW) := HCW
      have HT : Hid (type_of% ht) := ht
      have HB3 : Hid (Below w.heap.size w w2) := (HB.out.alloc (by omega) _).trans (b2.mono (by simp; omega))
      clear HCW ht b2 HBA HB HWe e0 e1 e2 e3
      go_wp2_with fail
      refine HCX.out.mono ?_
      rintro r w3 ⟨rfl, hb3, b3⟩
      have HD3 : Hid (∃ l : List UInt8, nums ⟨l.toArray⟩ = bodyT ((L.take (k + 1)).map InsD.val) ∧ BD w3 w1.heap.size w1.heap.size l) := ⟨_, by rw [nums_list, HNL.out, HT.out, HTK.out], hb3⟩
      have HB4 : Hid (Below w.heap.size w w3) := HB3.out.trans (b3.mono hs1)
      clear hb3 b3 HCX HB3
      go_wp2
      go_roundw
      case rel => exact ⟨k + 1, by go_num, by omega, HD3, HB4⟩
      case measure => simp [intOf]; omega
    · have hkn : L.take k = L := List.take_of_length_le (by rw [HLn.out]; omega)
      rw [hkn] at HNL
      have HST := bstring_any w1.heap.size w1.heap.size l wr HBD.out (by omega)
      have HSU : Hid (type_of% HST) := HST
      clear HST HBD hkn
      go_wp2_with fail
      refine HSU.out.mono ?_
      rintro r w2 ⟨rfl, b2⟩
      go_wp2
      go_ret2
      exact ⟨_, rfl, HNL.out, HB.out.trans (b2.mono hs1)⟩

end Go.Proofs.YtmbficofcmfmlaaDoor
