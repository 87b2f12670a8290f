/-
 What the program's small texts are: bytes, kinds, numbers, names, sized texts, sections, places.
 What listText makes of a list, for the kinds of its parts.
 What the texts of a module's parts are.
-/
import Derived.Test.YtakpkdckajjooaaGreatDoorWQG
import Derived.Test.YtakpkdckajjooaaGreatDoorWQA
import Derived.Laws.Concat
import Derived.Deep.RegionHeld3
set_option maxHeartbeats 8000000
set_option maxRecDepth 1000000
namespace Go.Proofs.YtakpkdckajjooaaGreatDoor
set_option linter.unusedVariables false
open Go.RowKit
def Txt (w : World) (x : List Int) (r : Ending) (w' : World) : Prop := ∃ t, r = .returned (.string t) ∧ nums t = x ∧ Below w.heap.size w w'
theorem Txt.eq {w : World} {x y : List Int} {r : Ending} {w' : World} (h : Txt w x r w') (e : x = y) : Txt w y r w' := e ▸ h
def BB (w : World) (X : Nat) (ns : List Int) : Prop := w.heap[X]? = some (.cells (ns.map (Value.int .u8)).toArray 5 (0, 0))
theorem BB.under {w w' : World} {X : Nat} {ns : List Int} (h : BB w X ns) (b : Below w.heap.size w w') : BB w' X ns := by
 unfold BB at h ⊢
 rw [b.block X (some_lt h), h]
theorem BB.one (w : World) (n : Int) : BB (w.alloc (.cells #[.int .u8 n] 5)) w.heap.size [n] := heap_alloc_new w _
theorem BB.two (w : World) (n k : Int) : BB (w.alloc (.cells #[.int .u8 n, .int .u8 k] 5)) w.heap.size [n, k] := heap_alloc_new w _
theorem BB.conv {w : World} {X : Nat} {ns : List Int} (h : BB w X ns) (n : Nat) (hn : ns.length = n) : (convert 142 9 (.slice (some ⟨X, 0, none⟩) n n)).run Tryz.prog w = .ok (.string (strOfNums ns)) w := by
 refine run_convert_bytes_arg _ 142 5 Tryz.underlying142 Tryz.underlying5 X 0 n n ns hn ?_ 9 Tryz.underlying9
 intro i hi
 unfold BB at h
 rw [World.cell?, h]
 have hi' : i < ns.length := by omega
 simp [List.getElem?_eq_getElem hi', List.getD_eq_getElem?_getD]
theorem bytes_any (w : World) (X n : Nat) (ns : List Int) (h : BB w X ns) (hn : ns.length = n) :
  Calls Tryz.prog 121 #[.slice (some ⟨X, 0, none⟩) n n] w fun r w' => r = .returned (.string (strOfNums ns)) ∧ w' = w := by
 have hc := h.conv n hn
 clear h
 go_enter Tryz.func121, Tryz.ntmps121
 go_wp2
 go_ret
 exact ⟨rfl, rfl⟩
theorem isK_byte {k : Int} (h : isK k = true) : ∀ b ∈ [k], 0 ≤ b ∧ b < 256 := by
 intro b hb
 simp at hb
 subst hb
 rcases isK_or h with h | h <;> omega
theorem kindText_any (k : Int) (h0 : 0 ≤ k) (h1 : k < 256) (w : World) :
  Calls Tryz.prog 123 #[.int .u8 k] w (Txt w [k]) := by
 have HB : Hid (BB (w.alloc (.cells #[.int .u8 k] 5)) w.heap.size [k]) := BB.one w k
 go_enter Tryz.func123, Tryz.ntmps123
 go_wp2_with fail
 refine (bytes_any _ _ 1 _ HB.out rfl).mono ?_
 rintro r w1 ⟨rfl, rfl⟩
 go_wp2
 go_ret
 exact ⟨_, rfl, nums_str (by intro b hb; simp at hb; omega), (Below.refl _ _).alloc (Nat.le_refl _) _⟩
theorem numberText_any (n : Int) (h0 : 0 ≤ n) (h1 : n ≤ 9223372036854775807) (w : World) :
  Calls Tryz.prog 126 #[.int .i64 n] w (Txt w (uB n.toNat)) := by
 have HU : Hid (∀ w, Calls Tryz.prog 176 #[.int .u64 n] w fun e w' => e = .returned (.string (strOfNums (uB n.toNat))) ∧ Below w.heap.size w w') := fun w => by
  have := u_any n.toNat (by omega) w
  rw [Int.toNat_of_nonneg h0] at this
  exact this
 go_enter Tryz.func126, Tryz.ntmps126
 go_wp2_with fail
 refine (HU.out _).mono ?_
 rintro e w1 ⟨rfl, b⟩
 go_wp2
 go_ret
 exact ⟨_, rfl, nums_u _, b⟩
theorem nameText_any (s : ByteArray) (w : World) (hA : Amb w) (hc : chkName (nums s) = 0) :
  Calls Tryz.prog 125 #[.string s] w (Txt w (tName (nums s))) := by
 have HA : Hid (Amb w) := hA
 have HC : Hid (chkName (nums s) = 0) := hc
 clear hA hc
 go_enter Tryz.func125, Tryz.ntmps125
 go_wp2_with fail
 refine (name_any s _ HA.out).mono ?_
 rintro r w1 ⟨b, t, rfl, ht⟩
 have HT : Hid (nums t = tName (nums s)) := ht HC.out
 clear ht
 generalize chkName (nums s) = e
 go_wp2
 go_ret
 exact ⟨_, rfl, HT.out, b⟩
theorem uB_len10 (n : Nat) (h : n ≤ 18446744073709551615) : (uB n).length ≤ 10 := uB_len 9 n (by omega)
theorem size_of {t : ByteArray} {x : List Int} (h : nums t = x) : t.size = x.length := by rw [← nums_length, h]
theorem sized_any (s : ByteArray) (hs : s.size ≤ 100000000) (w : World) :
  Calls Tryz.prog 136 #[.string s] w (Txt w (tName (nums s))) := by
 have hu := uB_len10 s.size (by omega)
 have HN : Hid (Calls Tryz.prog 126 #[.int .i64 (s.size : Int)] w (Txt w (uB s.size))) := numberText_any (s.size : Int) (by omega) (by omega) w
 go_enter Tryz.func136, Tryz.ntmps136
 go_wp2_with fail
 refine HN.out.mono ?_
 rintro r w1 ⟨t, rfl, ht, b⟩
 have hz := size_of ht
 have HT : Hid (nums t = uB s.size) := ht
 clear ht
 go_wp2
 go_ret
 refine ⟨_, rfl, ?_, b⟩
 rw [nums_append, HT.out, tName, nums_length]
theorem section_any (n : Int) (h0 : 0 ≤ n) (h1 : n < 256) (s : ByteArray) (hs : s.size ≤ 100000000) (w : World) :
  Calls Tryz.prog 119 #[.int .u8 n, .string s] w (Txt w (n :: tName (nums s))) := by
 have HB : Hid (BB (w.alloc (.cells #[.int .u8 n] 5)) w.heap.size [n]) := BB.one w n
 have HL : Hid ((tName (nums s)).length ≤ 10 + s.size) := by
  have hu := uB_len10 s.size (by omega)
  unfold Hid tName
  rw [List.length_append, nums_length]
  omega
 have z1 : (strOfNums [n]).size = 1 := strOfNums_size [n]
 go_enter Tryz.func119, Tryz.ntmps119
 go_wp2_with fail
 refine (bytes_any _ _ 1 _ HB.out rfl).mono ?_
 rintro r w1 ⟨rfl, rfl⟩
 go_wp2_with fail
 refine (sized_any s hs _).mono ?_
 rintro r w2 ⟨t, rfl, ht, b⟩
 have hz := size_of ht
 have hl := HL.out
 have HT : Hid (nums t = tName (nums s)) := ht
 have HBB : Hid (Below w.heap.size w w2) := ((Below.refl _ _).alloc (Nat.le_refl _) _).trans (b.mono (by simp))
 clear ht b
 rw [← hz] at hl
 go_wp2
 go_ret
 refine ⟨_, rfl, ?_, HBB.out⟩
 rw [nums_append, HT.out, nums_str (by intro b hb; simp at hb; omega)]
 rfl
theorem placeText_any (a : Int) (h0 : -9223372036854775808 ≤ a) (h1 : a ≤ 9223372036854775807) (w : World) :
  Calls Tryz.prog 133 #[.int .i64 a] w (Txt w (tPlace a)) := by
 have HB : Hid (BB (w.alloc (.cells #[.int .u8 0, .int .u8 65] 5)) w.heap.size [0, 65]) := BB.two w 0 65
 have hl := sB_len64 a h0 h1
 rw [← strOfNums_size] at hl
 have z1 : (strOfNums [0, 65]).size = 2 := strOfNums_size [0, 65]
 have z2 : (strOfNums [11]).size = 1 := strOfNums_size [11]
 go_enter Tryz.func133, Tryz.ntmps133
 go_wp2_with fail
 refine (bytes_any _ _ 2 _ HB.out rfl).mono ?_
 rintro r w1 ⟨rfl, rfl⟩
 go_wp2_with fail
 refine (s_any a h0 h1 _).mono ?_
 rintro r w2 ⟨rfl, b⟩
 have HB2 : Hid (BB (w2.alloc (.cells #[.int .u8 11] 5)) w2.heap.size [11]) := BB.one w2 11
 have HBB : Hid (Below w.heap.size w w2) := ((Below.refl _ _).alloc (Nat.le_refl _) _).trans (b.mono (by simp))
 clear b HB
 go_wp2_with fail
 refine (bytes_any _ _ 1 _ HB2.out rfl).mono ?_
 rintro r w3 ⟨rfl, rfl⟩
 go_wp2
 go_ret
 refine ⟨_, rfl, ?_, HBB.out.alloc HBB.out.size _⟩
 rw [nums_append, nums_append, nums_str (xs := [0, 65]) (by intro b hb; simp at hb; omega), nums_str (xs := [11]) (by intro b hb; simp at hb; omega), nums_str (sB_byte a)]
 rfl
end Go.Proofs.YtakpkdckajjooaaGreatDoor
namespace Go.Proofs.YtakpkdckajjooaaGreatDoor
set_option linter.unusedVariables false
open Go.RowKit
theorem flat_le {α : Type} (t : α → List Int) (U : Nat) : ∀ (L : List α), (∀ a ∈ L, (t a).length ≤ U) → (L.flatMap t).length ≤ L.length * U
 | [], _ => by simp
 | a :: L, h => by
  have h1 := h a (by simp)
  have h2 := flat_le t U L fun x hx => h x (by simp [hx])
  rw [List.flatMap_cons, List.length_append, List.length_cons, Nat.add_mul]
  omega
theorem len_of_size (t : ByteArray) : ([] ++ t.data.toList).length = t.size := by rw [List.nil_append, Array.length_toList]; rfl
def grpCells (d : Nat × Int) : List Value := [.int .i64 (d.1 : Int), .int .u8 d.2]
theorem listText_sig (N : Nat) (w0 w : World) (tx : SigD → List Int) (U : Nat) (hU : U ≤ 400000) (L : List SigD) (o : Option Addr) (n cap : Nat) (hn : L.length = n) (hcap : n ≤ cap) (hmax : n ≤ 200)
  (hr : L = [] ∨ ∃ b f, o = some ⟨b, f, none⟩ ∧ b < N ∧ ∀ i (h : i < L.length) r, r < 2 → w0.cell? ⟨b, f + i * 2 + r, none⟩ = (SigD.cells L[i])[r]?)
  (hb : Below N w0 w) (hNw : N ≤ w.heap.size) (hlen : ∀ d ∈ L, (tx d).length ≤ U)
  (HLOOK : Hid (∀ d ∈ L, ∀ w', Below N w0 w' → N ≤ w'.heap.size → Calls Tryz.prog 72 #[.agg #[.slice d.i.o d.i.n d.i.cap, .slice d.r.o d.r.n d.r.cap]] w' (Txt w' (tx d)))) :
  Calls Tryz.prog 120 #[.slice o n cap, .func (.func 72) #[] #[]] w (Txt w (uB n ++ L.flatMap tx)) := by
 have HBW : Hid (Below N w0 w) := hb
 have HL : Hid (L.length = n) := hn
 have HSZ : Hid (N ≤ w.heap.size) := hNw
 have HLE : Hid (∀ d ∈ L, (tx d).length ≤ U) := hlen
 have hu := uB_len10 n (by omega)
 have HN : Hid (type_of% (numberText_any (n : Int) (by omega) (by omega) (w.alloc (.cells #[.pointer none, .slice none 0 0] 223)))) := numberText_any (n : Int) (by omega) (by omega) (w.alloc (.cells #[.pointer none, .slice none 0 0] 223))
 have HD0 : Hid (BD (w.alloc (.cells #[.pointer none, .slice none 0 0] 223)) w.heap.size w.heap.size []) := BD.new w
 rcases hr with rfl | ⟨b, f, rfl, hbN, hcells⟩
 ·have hn0 : n = 0 := by rw [← hn]; rfl
  subst hn0
  clear hb hn hNw hlen
  go_enter Tryz.func120, Tryz.ntmps120
  go_wp2_with fail
  refine HN.out.mono ?_
  rintro r w1 ⟨t, rfl, ht, b1⟩
  have hz := size_of ht
  have hs1 := b1.size
  rw [World.size_alloc] at hs1
  have HT : Hid (nums t = uB 0) := ht
  have HCW := bwrite_any w.heap.size w.heap.size [] t w1 (HD0.out.under b1) (by simp at hz ⊢; omega) (by omega)
  have HCX : Hid (type_of% HCW) := HCW
  have HB1 : Hid (Below w.heap.size w w1) := ((Below.refl _ _).alloc (Nat.le_refl _) _).trans (b1.mono (by simp))
  clear HCW ht b1 HN HD0
  go_wp2_with fail
  refine HCX.out.mono ?_
  rintro r w2 ⟨rfl, hb2, b2⟩
  have HD2 : Hid (∃ l : List UInt8, nums ⟨l.toArray⟩ = uB 0 ∧ l.length ≤ 10 ∧ BD w2 w.heap.size w.heap.size l) := ⟨_, by rw [nums_list, HT.out]; rfl, Nat.le_trans (Nat.le_of_eq (len_of_size t)) (by rw [hz]; exact hu), hb2⟩
  have HB2 : Hid (Below w.heap.size w w2) := HB1.out.trans (b2.mono (Nat.le_refl _))
  clear hb2 b2 HCX HB1
  go_wp2
  go_loopw [14] (fun iv wr => iv = .int .i64 0 ∧ Hid (∃ l : List UInt8, nums ⟨l.toArray⟩ = uB 0 ∧ l.length ≤ 10 ∧ BD wr w.heap.size w.heap.size l) ∧ Hid (Below w.heap.size w wr)) (fun _ _ => 0)
  case atStart => exact ⟨rfl, HD2, HB2⟩
  case round =>
   obtain ⟨rfl, HD, HB⟩ := hrel
   obtain ⟨l, hnl, hll, hbd⟩ := HD.out
   have HNL : Hid (type_of% hnl) := hnl
   have hlt0 := hbd.lt
   have HST := bstring_any w.heap.size w.heap.size l wr hbd (by omega)
   have HSU : Hid (type_of% HST) := HST
   clear HST hbd hnl
   go_wp2_with fail
   refine HSU.out.mono ?_
   rintro r w3 ⟨rfl, b3⟩
   go_wp2
   go_ret
   exact ⟨_, rfl, by rw [HNL.out]; simp, HB.out.trans (b3.mono (Nat.le_refl _))⟩
 have HR : Hid (type_of% hcells) := hcells
 clear hb hcells hn hNw hlen
 go_enter Tryz.func120, Tryz.ntmps120
 go_wp2_with fail
 refine HN.out.mono ?_
 rintro r w1 ⟨t, rfl, ht, b1⟩
 have hz := size_of ht
 have hs1 := b1.size
 rw [World.size_alloc] at hs1
 rw [Int.toNat_natCast] at hz ht
 have HT : Hid (nums t = uB n) := ht
 have HCW := bwrite_any w.heap.size w.heap.size [] t w1 (HD0.out.under b1) (by simp; omega) (by omega)
 have HCX : Hid (type_of% HCW) := HCW
 have HB1 : Hid (Below w.heap.size w w1) := ((Below.refl _ _).alloc (Nat.le_refl _) _).trans (b1.mono (by simp))
 clear HCW ht b1 HN HD0
 go_wp2_with fail
 refine HCX.out.mono ?_
 rintro r w2 ⟨rfl, hb2, b2⟩
 have HD2 : Hid (∃ l : List UInt8, nums ⟨l.toArray⟩ = uB n ++ (L.take 0).flatMap tx ∧ BD w2 w.heap.size w.heap.size l) := ⟨_, by rw [nums_list, HT.out]; simp; rfl, hb2⟩
 have HB2 : Hid (Below w.heap.size w w2) := HB1.out.trans (b2.mono (Nat.le_refl _))
 clear hb2 b2 HCX HB1
 go_wp2
 go_loopw [14] (fun iv wr => ∃ i : Nat, iv = .int .i64 (i : Int) ∧ i ≤ n ∧ Hid (∃ l : List UInt8, nums ⟨l.toArray⟩ = uB n ++ (L.take i).flatMap tx ∧ BD wr w.heap.size w.heap.size l) ∧ Hid (Below w.heap.size w wr)) (fun iv _ => n - (intOf iv).toNat)
 case atStart => exact ⟨0, rfl, by omega, HD2, HB2⟩
 case round =>
  obtain ⟨i, rfl, hin, HD, HBX⟩ := hrel
  have HB : Hid (Below N w0 wr) := HBW.out.trans (HBX.out.mono HSZ.out)
  obtain ⟨l, hnl, hbd⟩ := HD.out
  have hll : l.length ≤ 10 + i * U := by
   rw [← nums_len', hnl, List.length_append]
   have := flat_le tx U (L.take i) fun d hd => HLE.out d (List.take_subset _ _ hd)
   rw [List.length_take] at this
   have h2 : min i L.length * U ≤ i * U := Nat.mul_le_mul_right _ (Nat.min_le_left _ _)
   omega
  have hiU : i * U ≤ 200 * 400000 := Nat.mul_le_mul (by omega) hU
  have hw1 : w.heap.size < wr.heap.size := hbd.lt
  have HNL : Hid (type_of% hnl) := hnl
  have HBD : Hid (type_of% hbd) := hbd
  clear HD hnl hbd HD2 HB2
  by_cases hlt : i < n
  ·have hiL : i < L.length := by rw [HL.out]; exact hlt
   have hi0 : (0 : Int) ≤ (i : Int) := by omega
   have hi1 : (i : Int) < (n : Int) := by omega
   have HS : Hid ((L.take (i + 1)).flatMap tx = (L.take i).flatMap tx ++ tx L[i]) := by
    unfold Hid
    rw [List.take_succ_eq_append_getElem hiL, List.flatMap_append]
    simp
   have HLK : Hid (type_of% (HLOOK.out L[i] (List.getElem_mem hiL))) := HLOOK.out L[i] (List.getElem_mem hiL)
   have hdl : (tx L[i]).length ≤ U := HLE.out _ (List.getElem_mem hiL)
   have HCC : Hid (∀ r, r < 2 → wr.cell? ⟨b, f + i * 2 + r, none⟩ = (SigD.cells L[i])[r]?) := fun r hr => by
    rw [HB.out.cell (p := ⟨b, f + i * 2 + r, none⟩) hbN]
    exact HR.out i hiL r hr
   obtain ⟨d, hd⟩ : ∃ d, d = L[i] := ⟨_, rfl⟩
   rw [← hd] at HS HLK HCC hdl
   clear hd
   obtain ⟨cd, hcd⟩ : ∃ cd, cd = tx d := ⟨_, rfl⟩
   rw [← hcd] at HS HLK hdl
   clear hcd
   obtain ⟨⟨o1, n1, c1, x1⟩, ⟨o2, n2, c2, x2⟩⟩ := d
   have e0 : wr.cell? ⟨b, f + i * 2, none⟩ = some (.slice o1 n1 c1) := HCC.out 0 (by omega)
   have e1 : wr.cell? ⟨b, f + i * 2 + 1, none⟩ = some (.slice o2 n2 c2) := HCC.out 1 (by omega)
   have hs0 : (wr.alloc (.cells #[.slice none 0 0, .slice none 0 0] 50)).heap.size = wr.heap.size + 1 := by simp
   have hbn : b ≠ wr.heap.size := by
    have := HB.out.size
    have h3 := HSZ.out
    omega
   have HNW : Hid (N ≤ wr.heap.size) := by have h3 := HSZ.out; unfold Hid; omega
   have HBA : Hid (Below N w0 (wr.alloc (.cells #[.slice o1 n1 c1, .slice o2 n2 c2] 50))) := HB.out.alloc HNW.out _
   have HSW : Hid (N ≤ ((wr.alloc (.cells #[.slice o1 n1 c1, .slice o2 n2 c2] 50))).heap.size) := by
    have h4 := HNW.out
    unfold Hid
    simp
    omega
   have HXA : Hid (Below w.heap.size w (wr.alloc (.cells #[.slice o1 n1 c1, .slice o2 n2 c2] 50))) := HBX.out.alloc HBX.out.size _
   have HBDA : Hid (BD (wr.alloc (.cells #[.slice o1 n1 c1, .slice o2 n2 c2] 50)) w.heap.size w.heap.size l) := HBD.out.under ((Below.refl _ _).alloc (Nat.le_refl _) _)
   have hza : w.heap.size ≤ ((wr.alloc (.cells #[.slice o1 n1 c1, .slice o2 n2 c2] 50))).heap.size := HXA.out.size
   clear HBD
   go_wp2_with fail
   refine (HLK.out _ HBA.out HSW.out).mono ?_
   rintro r w3 ⟨tt, rfl, htt, b3⟩
   have hzt := size_of htt
   have hs3 := b3.size
   have HTT : Hid (nums tt = cd) := htt
   have HCW := bwrite_any w.heap.size w.heap.size l tt w3 (HBDA.out.under b3) (by omega) (by omega)
   have HCX : Hid (type_of% HCW) := HCW
   have HB3 : Hid (Below w.heap.size w w3) := HXA.out.trans (b3.mono hza)
   clear HCW htt b3 HBDA HXA HBA HSW HLK HCC e0 e1
   go_wp2_with fail
   refine HCX.out.mono ?_
   rintro r w4 ⟨rfl, hb4, b4⟩
   have HD4 : Hid (∃ l : List UInt8, nums ⟨l.toArray⟩ = uB n ++ (L.take (i + 1)).flatMap tx ∧ BD w4 w.heap.size w.heap.size l) := ⟨_, by rw [nums_list, HNL.out, HTT.out, HS.out, List.append_assoc], hb4⟩
   have HB4 : Hid (Below w.heap.size w w4) := HB3.out.trans (b4.mono (Nat.le_refl _))
   clear hb4 b4 HCX HB3
   go_wp2
   go_roundw
   case rel => exact ⟨i + 1, by go_num, by omega, HD4, HB4⟩
   case measure => simp [intOf]; omega
  ·have HTL : Hid (L.take i = L) := List.take_of_length_le (by rw [HL.out]; omega)
   rw [HTL.out] at HNL
   have HST := bstring_any w.heap.size w.heap.size l wr HBD.out (by omega)
   have HSU : Hid (type_of% HST) := HST
   clear HST HBD HTL
   go_wp2_with fail
   refine HSU.out.mono ?_
   rintro r w3 ⟨rfl, b3⟩
   go_wp2
   go_ret
   exact ⟨_, rfl, HNL.out, HBX.out.trans (b3.mono (Nat.le_refl _))⟩
theorem listText_imp (N : Nat) (w0 w : World) (tx : NamD → List Int) (U : Nat) (hU : U ≤ 400000) (L : List NamD) (o : Option Addr) (n cap : Nat) (hn : L.length = n) (hcap : n ≤ cap) (hmax : n ≤ 200)
  (hr : L = [] ∨ ∃ b f, o = some ⟨b, f, none⟩ ∧ b < N ∧ ∀ i (h : i < L.length) r, r < 2 → w0.cell? ⟨b, f + i * 2 + r, none⟩ = (NamD.cells L[i])[r]?)
  (hb : Below N w0 w) (hNw : N ≤ w.heap.size) (hlen : ∀ d ∈ L, (tx d).length ≤ U)
  (HLOOK : Hid (∀ d ∈ L, ∀ w', Below N w0 w' → N ≤ w'.heap.size → Calls Tryz.prog 74 #[.agg #[.string d.s, .int .i64 d.n]] w' (Txt w' (tx d)))) :
  Calls Tryz.prog 124 #[.slice o n cap, .func (.func 74) #[] #[]] w (Txt w (uB n ++ L.flatMap tx)) := by
 have HBW : Hid (Below N w0 w) := hb
 have HL : Hid (L.length = n) := hn
 have HSZ : Hid (N ≤ w.heap.size) := hNw
 have HLE : Hid (∀ d ∈ L, (tx d).length ≤ U) := hlen
 have hu := uB_len10 n (by omega)
 have HN : Hid (type_of% (numberText_any (n : Int) (by omega) (by omega) (w.alloc (.cells #[.pointer none, .slice none 0 0] 223)))) := numberText_any (n : Int) (by omega) (by omega) (w.alloc (.cells #[.pointer none, .slice none 0 0] 223))
 have HD0 : Hid (BD (w.alloc (.cells #[.pointer none, .slice none 0 0] 223)) w.heap.size w.heap.size []) := BD.new w
 rcases hr with rfl | ⟨b, f, rfl, hbN, hcells⟩
 ·have hn0 : n = 0 := by rw [← hn]; rfl
  subst hn0
  clear hb hn hNw hlen
  go_enter Tryz.func124, Tryz.ntmps124
  go_wp2_with fail
  refine HN.out.mono ?_
  rintro r w1 ⟨t, rfl, ht, b1⟩
  have hz := size_of ht
  have hs1 := b1.size
  rw [World.size_alloc] at hs1
  have HT : Hid (nums t = uB 0) := ht
  have HCW := bwrite_any w.heap.size w.heap.size [] t w1 (HD0.out.under b1) (by simp at hz ⊢; omega) (by omega)
  have HCX : Hid (type_of% HCW) := HCW
  have HB1 : Hid (Below w.heap.size w w1) := ((Below.refl _ _).alloc (Nat.le_refl _) _).trans (b1.mono (by simp))
  clear HCW ht b1 HN HD0
  go_wp2_with fail
  refine HCX.out.mono ?_
  rintro r w2 ⟨rfl, hb2, b2⟩
  have HD2 : Hid (∃ l : List UInt8, nums ⟨l.toArray⟩ = uB 0 ∧ l.length ≤ 10 ∧ BD w2 w.heap.size w.heap.size l) := ⟨_, by rw [nums_list, HT.out]; rfl, Nat.le_trans (Nat.le_of_eq (len_of_size t)) (by rw [hz]; exact hu), hb2⟩
  have HB2 : Hid (Below w.heap.size w w2) := HB1.out.trans (b2.mono (Nat.le_refl _))
  clear hb2 b2 HCX HB1
  go_wp2
  go_loopw [14] (fun iv wr => iv = .int .i64 0 ∧ Hid (∃ l : List UInt8, nums ⟨l.toArray⟩ = uB 0 ∧ l.length ≤ 10 ∧ BD wr w.heap.size w.heap.size l) ∧ Hid (Below w.heap.size w wr)) (fun _ _ => 0)
  case atStart => exact ⟨rfl, HD2, HB2⟩
  case round =>
   obtain ⟨rfl, HD, HB⟩ := hrel
   obtain ⟨l, hnl, hll, hbd⟩ := HD.out
   have HNL : Hid (type_of% hnl) := hnl
   have hlt0 := hbd.lt
   have HST := bstring_any w.heap.size w.heap.size l wr hbd (by omega)
   have HSU : Hid (type_of% HST) := HST
   clear HST hbd hnl
   go_wp2_with fail
   refine HSU.out.mono ?_
   rintro r w3 ⟨rfl, b3⟩
   go_wp2
   go_ret
   exact ⟨_, rfl, by rw [HNL.out]; simp, HB.out.trans (b3.mono (Nat.le_refl _))⟩
 have HR : Hid (type_of% hcells) := hcells
 clear hb hcells hn hNw hlen
 go_enter Tryz.func124, Tryz.ntmps124
 go_wp2_with fail
 refine HN.out.mono ?_
 rintro r w1 ⟨t, rfl, ht, b1⟩
 have hz := size_of ht
 have hs1 := b1.size
 rw [World.size_alloc] at hs1
 rw [Int.toNat_natCast] at hz ht
 have HT : Hid (nums t = uB n) := ht
 have HCW := bwrite_any w.heap.size w.heap.size [] t w1 (HD0.out.under b1) (by simp; omega) (by omega)
 have HCX : Hid (type_of% HCW) := HCW
 have HB1 : Hid (Below w.heap.size w w1) := ((Below.refl _ _).alloc (Nat.le_refl _) _).trans (b1.mono (by simp))
 clear HCW ht b1 HN HD0
 go_wp2_with fail
 refine HCX.out.mono ?_
 rintro r w2 ⟨rfl, hb2, b2⟩
 have HD2 : Hid (∃ l : List UInt8, nums ⟨l.toArray⟩ = uB n ++ (L.take 0).flatMap tx ∧ BD w2 w.heap.size w.heap.size l) := ⟨_, by rw [nums_list, HT.out]; simp; rfl, hb2⟩
 have HB2 : Hid (Below w.heap.size w w2) := HB1.out.trans (b2.mono (Nat.le_refl _))
 clear hb2 b2 HCX HB1
 go_wp2
 go_loopw [14] (fun iv wr => ∃ i : Nat, iv = .int .i64 (i : Int) ∧ i ≤ n ∧ Hid (∃ l : List UInt8, nums ⟨l.toArray⟩ = uB n ++ (L.take i).flatMap tx ∧ BD wr w.heap.size w.heap.size l) ∧ Hid (Below w.heap.size w wr)) (fun iv _ => n - (intOf iv).toNat)
 case atStart => exact ⟨0, rfl, by omega, HD2, HB2⟩
 case round =>
  obtain ⟨i, rfl, hin, HD, HBX⟩ := hrel
  have HB : Hid (Below N w0 wr) := HBW.out.trans (HBX.out.mono HSZ.out)
  obtain ⟨l, hnl, hbd⟩ := HD.out
  have hll : l.length ≤ 10 + i * U := by
   rw [← nums_len', hnl, List.length_append]
   have := flat_le tx U (L.take i) fun d hd => HLE.out d (List.take_subset _ _ hd)
   rw [List.length_take] at this
   have h2 : min i L.length * U ≤ i * U := Nat.mul_le_mul_right _ (Nat.min_le_left _ _)
   omega
  have hiU : i * U ≤ 200 * 400000 := Nat.mul_le_mul (by omega) hU
  have hw1 : w.heap.size < wr.heap.size := hbd.lt
  have HNL : Hid (type_of% hnl) := hnl
  have HBD : Hid (type_of% hbd) := hbd
  clear HD hnl hbd HD2 HB2
  by_cases hlt : i < n
  ·have hiL : i < L.length := by rw [HL.out]; exact hlt
   have hi0 : (0 : Int) ≤ (i : Int) := by omega
   have hi1 : (i : Int) < (n : Int) := by omega
   have HS : Hid ((L.take (i + 1)).flatMap tx = (L.take i).flatMap tx ++ tx L[i]) := by
    unfold Hid
    rw [List.take_succ_eq_append_getElem hiL, List.flatMap_append]
    simp
   have HLK : Hid (type_of% (HLOOK.out L[i] (List.getElem_mem hiL))) := HLOOK.out L[i] (List.getElem_mem hiL)
   have hdl : (tx L[i]).length ≤ U := HLE.out _ (List.getElem_mem hiL)
   have HCC : Hid (∀ r, r < 2 → wr.cell? ⟨b, f + i * 2 + r, none⟩ = (NamD.cells L[i])[r]?) := fun r hr => by
    rw [HB.out.cell (p := ⟨b, f + i * 2 + r, none⟩) hbN]
    exact HR.out i hiL r hr
   obtain ⟨d, hd⟩ : ∃ d, d = L[i] := ⟨_, rfl⟩
   rw [← hd] at HS HLK HCC hdl
   clear hd
   obtain ⟨cd, hcd⟩ : ∃ cd, cd = tx d := ⟨_, rfl⟩
   rw [← hcd] at HS HLK hdl
   clear hcd
   obtain ⟨s1, n1⟩ := d
   have e0 : wr.cell? ⟨b, f + i * 2, none⟩ = some (.string s1) := HCC.out 0 (by omega)
   have e1 : wr.cell? ⟨b, f + i * 2 + 1, none⟩ = some (.int .i64 n1) := HCC.out 1 (by omega)
   have hs0 : (wr.alloc (.cells #[.string ⟨#[]⟩, .int .i64 0] 53)).heap.size = wr.heap.size + 1 := by simp
   have hbn : b ≠ wr.heap.size := by
    have := HB.out.size
    have h3 := HSZ.out
    omega
   have HNW : Hid (N ≤ wr.heap.size) := by have h3 := HSZ.out; unfold Hid; omega
   have HBA : Hid (Below N w0 (wr.alloc (.cells #[.string s1, .int .i64 n1] 53))) := HB.out.alloc HNW.out _
   have HSW : Hid (N ≤ ((wr.alloc (.cells #[.string s1, .int .i64 n1] 53))).heap.size) := by
    have h4 := HNW.out
    unfold Hid
    simp
    omega
   have HXA : Hid (Below w.heap.size w (wr.alloc (.cells #[.string s1, .int .i64 n1] 53))) := HBX.out.alloc HBX.out.size _
   have HBDA : Hid (BD (wr.alloc (.cells #[.string s1, .int .i64 n1] 53)) w.heap.size w.heap.size l) := HBD.out.under ((Below.refl _ _).alloc (Nat.le_refl _) _)
   have hza : w.heap.size ≤ ((wr.alloc (.cells #[.string s1, .int .i64 n1] 53))).heap.size := HXA.out.size
   clear HBD
   go_wp2_with fail
   refine (HLK.out _ HBA.out HSW.out).mono ?_
   rintro r w3 ⟨tt, rfl, htt, b3⟩
   have hzt := size_of htt
   have hs3 := b3.size
   have HTT : Hid (nums tt = cd) := htt
   have HCW := bwrite_any w.heap.size w.heap.size l tt w3 (HBDA.out.under b3) (by omega) (by omega)
   have HCX : Hid (type_of% HCW) := HCW
   have HB3 : Hid (Below w.heap.size w w3) := HXA.out.trans (b3.mono hza)
   clear HCW htt b3 HBDA HXA HBA HSW HLK HCC e0 e1
   go_wp2_with fail
   refine HCX.out.mono ?_
   rintro r w4 ⟨rfl, hb4, b4⟩
   have HD4 : Hid (∃ l : List UInt8, nums ⟨l.toArray⟩ = uB n ++ (L.take (i + 1)).flatMap tx ∧ BD w4 w.heap.size w.heap.size l) := ⟨_, by rw [nums_list, HNL.out, HTT.out, HS.out, List.append_assoc], hb4⟩
   have HB4 : Hid (Below w.heap.size w w4) := HB3.out.trans (b4.mono (Nat.le_refl _))
   clear hb4 b4 HCX HB3
   go_wp2
   go_roundw
   case rel => exact ⟨i + 1, by go_num, by omega, HD4, HB4⟩
   case measure => simp [intOf]; omega
  ·have HTL : Hid (L.take i = L) := List.take_of_length_le (by rw [HL.out]; omega)
   rw [HTL.out] at HNL
   have HST := bstring_any w.heap.size w.heap.size l wr HBD.out (by omega)
   have HSU : Hid (type_of% HST) := HST
   clear HST HBD HTL
   go_wp2_with fail
   refine HSU.out.mono ?_
   rintro r w3 ⟨rfl, b3⟩
   go_wp2
   go_ret
   exact ⟨_, rfl, HNL.out, HBX.out.trans (b3.mono (Nat.le_refl _))⟩
theorem listText_typ (N : Nat) (w0 w : World) (tx : FunD → List Int) (U : Nat) (hU : U ≤ 400000) (L : List FunD) (o : Option Addr) (n cap : Nat) (hn : L.length = n) (hcap : n ≤ cap) (hmax : n ≤ 200)
  (hr : L = [] ∨ ∃ b f, o = some ⟨b, f, none⟩ ∧ b < N ∧ ∀ i (h : i < L.length) r, r < 3 → w0.cell? ⟨b, f + i * 3 + r, none⟩ = (FunD.cells L[i])[r]?)
  (hb : Below N w0 w) (hNw : N ≤ w.heap.size) (hlen : ∀ d ∈ L, (tx d).length ≤ U)
  (HLOOK : Hid (∀ d ∈ L, ∀ w', Below N w0 w' → N ≤ w'.heap.size → Calls Tryz.prog 76 #[.agg #[.int .i64 d.t, .slice d.l.o d.l.n d.l.cap, .slice d.o d.b.length d.cap]] w' (Txt w' (tx d)))) :
  Calls Tryz.prog 127 #[.slice o n cap, .func (.func 76) #[] #[]] w (Txt w (uB n ++ L.flatMap tx)) := by
 have HBW : Hid (Below N w0 w) := hb
 have HL : Hid (L.length = n) := hn
 have HSZ : Hid (N ≤ w.heap.size) := hNw
 have HLE : Hid (∀ d ∈ L, (tx d).length ≤ U) := hlen
 have hu := uB_len10 n (by omega)
 have HN : Hid (type_of% (numberText_any (n : Int) (by omega) (by omega) (w.alloc (.cells #[.pointer none, .slice none 0 0] 223)))) := numberText_any (n : Int) (by omega) (by omega) (w.alloc (.cells #[.pointer none, .slice none 0 0] 223))
 have HD0 : Hid (BD (w.alloc (.cells #[.pointer none, .slice none 0 0] 223)) w.heap.size w.heap.size []) := BD.new w
 rcases hr with rfl | ⟨b, f, rfl, hbN, hcells⟩
 ·have hn0 : n = 0 := by rw [← hn]; rfl
  subst hn0
  clear hb hn hNw hlen
  go_enter Tryz.func127, Tryz.ntmps127
  go_wp2_with fail
  refine HN.out.mono ?_
  rintro r w1 ⟨t, rfl, ht, b1⟩
  have hz := size_of ht
  have hs1 := b1.size
  rw [World.size_alloc] at hs1
  have HT : Hid (nums t = uB 0) := ht
  have HCW := bwrite_any w.heap.size w.heap.size [] t w1 (HD0.out.under b1) (by simp at hz ⊢; omega) (by omega)
  have HCX : Hid (type_of% HCW) := HCW
  have HB1 : Hid (Below w.heap.size w w1) := ((Below.refl _ _).alloc (Nat.le_refl _) _).trans (b1.mono (by simp))
  clear HCW ht b1 HN HD0
  go_wp2_with fail
  refine HCX.out.mono ?_
  rintro r w2 ⟨rfl, hb2, b2⟩
  have HD2 : Hid (∃ l : List UInt8, nums ⟨l.toArray⟩ = uB 0 ∧ l.length ≤ 10 ∧ BD w2 w.heap.size w.heap.size l) := ⟨_, by rw [nums_list, HT.out]; rfl, Nat.le_trans (Nat.le_of_eq (len_of_size t)) (by rw [hz]; exact hu), hb2⟩
  have HB2 : Hid (Below w.heap.size w w2) := HB1.out.trans (b2.mono (Nat.le_refl _))
  clear hb2 b2 HCX HB1
  go_wp2
  go_loopw [14] (fun iv wr => iv = .int .i64 0 ∧ Hid (∃ l : List UInt8, nums ⟨l.toArray⟩ = uB 0 ∧ l.length ≤ 10 ∧ BD wr w.heap.size w.heap.size l) ∧ Hid (Below w.heap.size w wr)) (fun _ _ => 0)
  case atStart => exact ⟨rfl, HD2, HB2⟩
  case round =>
   obtain ⟨rfl, HD, HB⟩ := hrel
   obtain ⟨l, hnl, hll, hbd⟩ := HD.out
   have HNL : Hid (type_of% hnl) := hnl
   have hlt0 := hbd.lt
   have HST := bstring_any w.heap.size w.heap.size l wr hbd (by omega)
   have HSU : Hid (type_of% HST) := HST
   clear HST hbd hnl
   go_wp2_with fail
   refine HSU.out.mono ?_
   rintro r w3 ⟨rfl, b3⟩
   go_wp2
   go_ret
   exact ⟨_, rfl, by rw [HNL.out]; simp, HB.out.trans (b3.mono (Nat.le_refl _))⟩
 have HR : Hid (type_of% hcells) := hcells
 clear hb hcells hn hNw hlen
 go_enter Tryz.func127, Tryz.ntmps127
 go_wp2_with fail
 refine HN.out.mono ?_
 rintro r w1 ⟨t, rfl, ht, b1⟩
 have hz := size_of ht
 have hs1 := b1.size
 rw [World.size_alloc] at hs1
 rw [Int.toNat_natCast] at hz ht
 have HT : Hid (nums t = uB n) := ht
 have HCW := bwrite_any w.heap.size w.heap.size [] t w1 (HD0.out.under b1) (by simp; omega) (by omega)
 have HCX : Hid (type_of% HCW) := HCW
 have HB1 : Hid (Below w.heap.size w w1) := ((Below.refl _ _).alloc (Nat.le_refl _) _).trans (b1.mono (by simp))
 clear HCW ht b1 HN HD0
 go_wp2_with fail
 refine HCX.out.mono ?_
 rintro r w2 ⟨rfl, hb2, b2⟩
 have HD2 : Hid (∃ l : List UInt8, nums ⟨l.toArray⟩ = uB n ++ (L.take 0).flatMap tx ∧ BD w2 w.heap.size w.heap.size l) := ⟨_, by rw [nums_list, HT.out]; simp; rfl, hb2⟩
 have HB2 : Hid (Below w.heap.size w w2) := HB1.out.trans (b2.mono (Nat.le_refl _))
 clear hb2 b2 HCX HB1
 go_wp2
 go_loopw [14] (fun iv wr => ∃ i : Nat, iv = .int .i64 (i : Int) ∧ i ≤ n ∧ Hid (∃ l : List UInt8, nums ⟨l.toArray⟩ = uB n ++ (L.take i).flatMap tx ∧ BD wr w.heap.size w.heap.size l) ∧ Hid (Below w.heap.size w wr)) (fun iv _ => n - (intOf iv).toNat)
 case atStart => exact ⟨0, rfl, by omega, HD2, HB2⟩
 case round =>
  obtain ⟨i, rfl, hin, HD, HBX⟩ := hrel
  have HB : Hid (Below N w0 wr) := HBW.out.trans (HBX.out.mono HSZ.out)
  obtain ⟨l, hnl, hbd⟩ := HD.out
  have hll : l.length ≤ 10 + i * U := by
   rw [← nums_len', hnl, List.length_append]
   have := flat_le tx U (L.take i) fun d hd => HLE.out d (List.take_subset _ _ hd)
   rw [List.length_take] at this
   have h2 : min i L.length * U ≤ i * U := Nat.mul_le_mul_right _ (Nat.min_le_left _ _)
   omega
  have hiU : i * U ≤ 200 * 400000 := Nat.mul_le_mul (by omega) hU
  have hw1 : w.heap.size < wr.heap.size := hbd.lt
  have HNL : Hid (type_of% hnl) := hnl
  have HBD : Hid (type_of% hbd) := hbd
  clear HD hnl hbd HD2 HB2
  by_cases hlt : i < n
  ·have hiL : i < L.length := by rw [HL.out]; exact hlt
   have hi0 : (0 : Int) ≤ (i : Int) := by omega
   have hi1 : (i : Int) < (n : Int) := by omega
   have HS : Hid ((L.take (i + 1)).flatMap tx = (L.take i).flatMap tx ++ tx L[i]) := by
    unfold Hid
    rw [List.take_succ_eq_append_getElem hiL, List.flatMap_append]
    simp
   have HLK : Hid (type_of% (HLOOK.out L[i] (List.getElem_mem hiL))) := HLOOK.out L[i] (List.getElem_mem hiL)
   have hdl : (tx L[i]).length ≤ U := HLE.out _ (List.getElem_mem hiL)
   have HCC : Hid (∀ r, r < 3 → wr.cell? ⟨b, f + i * 3 + r, none⟩ = (FunD.cells L[i])[r]?) := fun r hr => by
    rw [HB.out.cell (p := ⟨b, f + i * 3 + r, none⟩) hbN]
    exact HR.out i hiL r hr
   obtain ⟨d, hd⟩ : ∃ d, d = L[i] := ⟨_, rfl⟩
   rw [← hd] at HS HLK HCC hdl
   clear hd
   obtain ⟨cd, hcd⟩ : ∃ cd, cd = tx d := ⟨_, rfl⟩
   rw [← hcd] at HS HLK hdl
   clear hcd
   obtain ⟨t1, ⟨o2, n2, c2, x2⟩, o3, c3, b3⟩ := d
   have e0 : wr.cell? ⟨b, f + i * 3, none⟩ = some (.int .i64 t1) := HCC.out 0 (by omega)
   have e1 : wr.cell? ⟨b, f + i * 3 + 1, none⟩ = some (.slice o2 n2 c2) := HCC.out 1 (by omega)
   have e2 : wr.cell? ⟨b, f + i * 3 + 2, none⟩ = some (.slice o3 b3.length c3) := HCC.out 2 (by omega)
   have hs0 : (wr.alloc (.cells #[.int .i64 0, .slice none 0 0, .slice none 0 0] 58)).heap.size = wr.heap.size + 1 := by simp
   have hbn : b ≠ wr.heap.size := by
    have := HB.out.size
    have h3 := HSZ.out
    omega
   have HNW : Hid (N ≤ wr.heap.size) := by have h3 := HSZ.out; unfold Hid; omega
   have HBA : Hid (Below N w0 (wr.alloc (.cells #[.int .i64 t1, .slice o2 n2 c2, .slice o3 b3.length c3] 58))) := HB.out.alloc HNW.out _
   have HSW : Hid (N ≤ ((wr.alloc (.cells #[.int .i64 t1, .slice o2 n2 c2, .slice o3 b3.length c3] 58))).heap.size) := by
    have h4 := HNW.out
    unfold Hid
    simp
    omega
   have HXA : Hid (Below w.heap.size w (wr.alloc (.cells #[.int .i64 t1, .slice o2 n2 c2, .slice o3 b3.length c3] 58))) := HBX.out.alloc HBX.out.size _
   have HBDA : Hid (BD (wr.alloc (.cells #[.int .i64 t1, .slice o2 n2 c2, .slice o3 b3.length c3] 58)) w.heap.size w.heap.size l) := HBD.out.under ((Below.refl _ _).alloc (Nat.le_refl _) _)
   have hza : w.heap.size ≤ ((wr.alloc (.cells #[.int .i64 t1, .slice o2 n2 c2, .slice o3 b3.length c3] 58))).heap.size := HXA.out.size
   clear HBD
   go_wp2_with fail
   refine (HLK.out _ HBA.out HSW.out).mono ?_
   rintro r w3 ⟨tt, rfl, htt, b3⟩
   have hzt := size_of htt
   have hs3 := b3.size
   have HTT : Hid (nums tt = cd) := htt
   have HCW := bwrite_any w.heap.size w.heap.size l tt w3 (HBDA.out.under b3) (by omega) (by omega)
   have HCX : Hid (type_of% HCW) := HCW
   have HB3 : Hid (Below w.heap.size w w3) := HXA.out.trans (b3.mono hza)
   clear HCW htt b3 HBDA HXA HBA HSW HLK HCC e0 e1 e2
   go_wp2_with fail
   refine HCX.out.mono ?_
   rintro r w4 ⟨rfl, hb4, b4⟩
   have HD4 : Hid (∃ l : List UInt8, nums ⟨l.toArray⟩ = uB n ++ (L.take (i + 1)).flatMap tx ∧ BD w4 w.heap.size w.heap.size l) := ⟨_, by rw [nums_list, HNL.out, HTT.out, HS.out, List.append_assoc], hb4⟩
   have HB4 : Hid (Below w.heap.size w w4) := HB3.out.trans (b4.mono (Nat.le_refl _))
   clear hb4 b4 HCX HB3
   go_wp2
   go_roundw
   case rel => exact ⟨i + 1, by go_num, by omega, HD4, HB4⟩
   case measure => simp [intOf]; omega
  ·have HTL : Hid (L.take i = L) := List.take_of_length_le (by rw [HL.out]; omega)
   rw [HTL.out] at HNL
   have HST := bstring_any w.heap.size w.heap.size l wr HBD.out (by omega)
   have HSU : Hid (type_of% HST) := HST
   clear HST HBD HTL
   go_wp2_with fail
   refine HSU.out.mono ?_
   rintro r w3 ⟨rfl, b3⟩
   go_wp2
   go_ret
   exact ⟨_, rfl, HNL.out, HBX.out.trans (b3.mono (Nat.le_refl _))⟩
theorem listText_cod (N : Nat) (w0 w : World) (tx : FunD → List Int) (U : Nat) (hU : U ≤ 400000) (L : List FunD) (o : Option Addr) (n cap : Nat) (hn : L.length = n) (hcap : n ≤ cap) (hmax : n ≤ 200)
  (hr : L = [] ∨ ∃ b f, o = some ⟨b, f, none⟩ ∧ b < N ∧ ∀ i (h : i < L.length) r, r < 3 → w0.cell? ⟨b, f + i * 3 + r, none⟩ = (FunD.cells L[i])[r]?)
  (hb : Below N w0 w) (hNw : N ≤ w.heap.size) (hlen : ∀ d ∈ L, (tx d).length ≤ U)
  (HLOOK : Hid (∀ d ∈ L, ∀ w', Below N w0 w' → N ≤ w'.heap.size → Calls Tryz.prog 86 #[.agg #[.int .i64 d.t, .slice d.l.o d.l.n d.l.cap, .slice d.o d.b.length d.cap]] w' (Txt w' (tx d)))) :
  Calls Tryz.prog 127 #[.slice o n cap, .func (.func 86) #[] #[]] w (Txt w (uB n ++ L.flatMap tx)) := by
 have HBW : Hid (Below N w0 w) := hb
 have HL : Hid (L.length = n) := hn
 have HSZ : Hid (N ≤ w.heap.size) := hNw
 have HLE : Hid (∀ d ∈ L, (tx d).length ≤ U) := hlen
 have hu := uB_len10 n (by omega)
 have HN : Hid (type_of% (numberText_any (n : Int) (by omega) (by omega) (w.alloc (.cells #[.pointer none, .slice none 0 0] 223)))) := numberText_any (n : Int) (by omega) (by omega) (w.alloc (.cells #[.pointer none, .slice none 0 0] 223))
 have HD0 : Hid (BD (w.alloc (.cells #[.pointer none, .slice none 0 0] 223)) w.heap.size w.heap.size []) := BD.new w
 rcases hr with rfl | ⟨b, f, rfl, hbN, hcells⟩
 ·have hn0 : n = 0 := by rw [← hn]; rfl
  subst hn0
  clear hb hn hNw hlen
  go_enter Tryz.func127, Tryz.ntmps127
  go_wp2_with fail
  refine HN.out.mono ?_
  rintro r w1 ⟨t, rfl, ht, b1⟩
  have hz := size_of ht
  have hs1 := b1.size
  rw [World.size_alloc] at hs1
  have HT : Hid (nums t = uB 0) := ht
  have HCW := bwrite_any w.heap.size w.heap.size [] t w1 (HD0.out.under b1) (by simp at hz ⊢; omega) (by omega)
  have HCX : Hid (type_of% HCW) := HCW
  have HB1 : Hid (Below w.heap.size w w1) := ((Below.refl _ _).alloc (Nat.le_refl _) _).trans (b1.mono (by simp))
  clear HCW ht b1 HN HD0
  go_wp2_with fail
  refine HCX.out.mono ?_
  rintro r w2 ⟨rfl, hb2, b2⟩
  have HD2 : Hid (∃ l : List UInt8, nums ⟨l.toArray⟩ = uB 0 ∧ l.length ≤ 10 ∧ BD w2 w.heap.size w.heap.size l) := ⟨_, by rw [nums_list, HT.out]; rfl, Nat.le_trans (Nat.le_of_eq (len_of_size t)) (by rw [hz]; exact hu), hb2⟩
  have HB2 : Hid (Below w.heap.size w w2) := HB1.out.trans (b2.mono (Nat.le_refl _))
  clear hb2 b2 HCX HB1
  go_wp2
  go_loopw [14] (fun iv wr => iv = .int .i64 0 ∧ Hid (∃ l : List UInt8, nums ⟨l.toArray⟩ = uB 0 ∧ l.length ≤ 10 ∧ BD wr w.heap.size w.heap.size l) ∧ Hid (Below w.heap.size w wr)) (fun _ _ => 0)
  case atStart => exact ⟨rfl, HD2, HB2⟩
  case round =>
   obtain ⟨rfl, HD, HB⟩ := hrel
   obtain ⟨l, hnl, hll, hbd⟩ := HD.out
   have HNL : Hid (type_of% hnl) := hnl
   have hlt0 := hbd.lt
   have HST := bstring_any w.heap.size w.heap.size l wr hbd (by omega)
   have HSU : Hid (type_of% HST) := HST
   clear HST hbd hnl
   go_wp2_with fail
   refine HSU.out.mono ?_
   rintro r w3 ⟨rfl, b3⟩
   go_wp2
   go_ret
   exact ⟨_, rfl, by rw [HNL.out]; simp, HB.out.trans (b3.mono (Nat.le_refl _))⟩
 have HR : Hid (type_of% hcells) := hcells
 clear hb hcells hn hNw hlen
 go_enter Tryz.func127, Tryz.ntmps127
 go_wp2_with fail
 refine HN.out.mono ?_
 rintro r w1 ⟨t, rfl, ht, b1⟩
 have hz := size_of ht
 have hs1 := b1.size
 rw [World.size_alloc] at hs1
 rw [Int.toNat_natCast] at hz ht
 have HT : Hid (nums t = uB n) := ht
 have HCW := bwrite_any w.heap.size w.heap.size [] t w1 (HD0.out.under b1) (by simp; omega) (by omega)
 have HCX : Hid (type_of% HCW) := HCW
 have HB1 : Hid (Below w.heap.size w w1) := ((Below.refl _ _).alloc (Nat.le_refl _) _).trans (b1.mono (by simp))
 clear HCW ht b1 HN HD0
 go_wp2_with fail
 refine HCX.out.mono ?_
 rintro r w2 ⟨rfl, hb2, b2⟩
 have HD2 : Hid (∃ l : List UInt8, nums ⟨l.toArray⟩ = uB n ++ (L.take 0).flatMap tx ∧ BD w2 w.heap.size w.heap.size l) := ⟨_, by rw [nums_list, HT.out]; simp; rfl, hb2⟩
 have HB2 : Hid (Below w.heap.size w w2) := HB1.out.trans (b2.mono (Nat.le_refl _))
 clear hb2 b2 HCX HB1
 go_wp2
 go_loopw [14] (fun iv wr => ∃ i : Nat, iv = .int .i64 (i : Int) ∧ i ≤ n ∧ Hid (∃ l : List UInt8, nums ⟨l.toArray⟩ = uB n ++ (L.take i).flatMap tx ∧ BD wr w.heap.size w.heap.size l) ∧ Hid (Below w.heap.size w wr)) (fun iv _ => n - (intOf iv).toNat)
 case atStart => exact ⟨0, rfl, by omega, HD2, HB2⟩
 case round =>
  obtain ⟨i, rfl, hin, HD, HBX⟩ := hrel
  have HB : Hid (Below N w0 wr) := HBW.out.trans (HBX.out.mono HSZ.out)
  obtain ⟨l, hnl, hbd⟩ := HD.out
  have hll : l.length ≤ 10 + i * U := by
   rw [← nums_len', hnl, List.length_append]
   have := flat_le tx U (L.take i) fun d hd => HLE.out d (List.take_subset _ _ hd)
   rw [List.length_take] at this
   have h2 : min i L.length * U ≤ i * U := Nat.mul_le_mul_right _ (Nat.min_le_left _ _)
   omega
  have hiU : i * U ≤ 200 * 400000 := Nat.mul_le_mul (by omega) hU
  have hw1 : w.heap.size < wr.heap.size := hbd.lt
  have HNL : Hid (type_of% hnl) := hnl
  have HBD : Hid (type_of% hbd) := hbd
  clear HD hnl hbd HD2 HB2
  by_cases hlt : i < n
  ·have hiL : i < L.length := by rw [HL.out]; exact hlt
   have hi0 : (0 : Int) ≤ (i : Int) := by omega
   have hi1 : (i : Int) < (n : Int) := by omega
   have HS : Hid ((L.take (i + 1)).flatMap tx = (L.take i).flatMap tx ++ tx L[i]) := by
    unfold Hid
    rw [List.take_succ_eq_append_getElem hiL, List.flatMap_append]
    simp
   have HLK : Hid (type_of% (HLOOK.out L[i] (List.getElem_mem hiL))) := HLOOK.out L[i] (List.getElem_mem hiL)
   have hdl : (tx L[i]).length ≤ U := HLE.out _ (List.getElem_mem hiL)
   have HCC : Hid (∀ r, r < 3 → wr.cell? ⟨b, f + i * 3 + r, none⟩ = (FunD.cells L[i])[r]?) := fun r hr => by
    rw [HB.out.cell (p := ⟨b, f + i * 3 + r, none⟩) hbN]
    exact HR.out i hiL r hr
   obtain ⟨d, hd⟩ : ∃ d, d = L[i] := ⟨_, rfl⟩
   rw [← hd] at HS HLK HCC hdl
   clear hd
   obtain ⟨cd, hcd⟩ : ∃ cd, cd = tx d := ⟨_, rfl⟩
   rw [← hcd] at HS HLK hdl
   clear hcd
   obtain ⟨t1, ⟨o2, n2, c2, x2⟩, o3, c3, b3⟩ := d
   have e0 : wr.cell? ⟨b, f + i * 3, none⟩ = some (.int .i64 t1) := HCC.out 0 (by omega)
   have e1 : wr.cell? ⟨b, f + i * 3 + 1, none⟩ = some (.slice o2 n2 c2) := HCC.out 1 (by omega)
   have e2 : wr.cell? ⟨b, f + i * 3 + 2, none⟩ = some (.slice o3 b3.length c3) := HCC.out 2 (by omega)
   have hs0 : (wr.alloc (.cells #[.int .i64 0, .slice none 0 0, .slice none 0 0] 58)).heap.size = wr.heap.size + 1 := by simp
   have hbn : b ≠ wr.heap.size := by
    have := HB.out.size
    have h3 := HSZ.out
    omega
   have HNW : Hid (N ≤ wr.heap.size) := by have h3 := HSZ.out; unfold Hid; omega
   have HBA : Hid (Below N w0 (wr.alloc (.cells #[.int .i64 t1, .slice o2 n2 c2, .slice o3 b3.length c3] 58))) := HB.out.alloc HNW.out _
   have HSW : Hid (N ≤ ((wr.alloc (.cells #[.int .i64 t1, .slice o2 n2 c2, .slice o3 b3.length c3] 58))).heap.size) := by
    have h4 := HNW.out
    unfold Hid
    simp
    omega
   have HXA : Hid (Below w.heap.size w (wr.alloc (.cells #[.int .i64 t1, .slice o2 n2 c2, .slice o3 b3.length c3] 58))) := HBX.out.alloc HBX.out.size _
   have HBDA : Hid (BD (wr.alloc (.cells #[.int .i64 t1, .slice o2 n2 c2, .slice o3 b3.length c3] 58)) w.heap.size w.heap.size l) := HBD.out.under ((Below.refl _ _).alloc (Nat.le_refl _) _)
   have hza : w.heap.size ≤ ((wr.alloc (.cells #[.int .i64 t1, .slice o2 n2 c2, .slice o3 b3.length c3] 58))).heap.size := HXA.out.size
   clear HBD
   go_wp2_with fail
   refine (HLK.out _ HBA.out HSW.out).mono ?_
   rintro r w3 ⟨tt, rfl, htt, b3⟩
   have hzt := size_of htt
   have hs3 := b3.size
   have HTT : Hid (nums tt = cd) := htt
   have HCW := bwrite_any w.heap.size w.heap.size l tt w3 (HBDA.out.under b3) (by omega) (by omega)
   have HCX : Hid (type_of% HCW) := HCW
   have HB3 : Hid (Below w.heap.size w w3) := HXA.out.trans (b3.mono hza)
   clear HCW htt b3 HBDA HXA HBA HSW HLK HCC e0 e1 e2
   go_wp2_with fail
   refine HCX.out.mono ?_
   rintro r w4 ⟨rfl, hb4, b4⟩
   have HD4 : Hid (∃ l : List UInt8, nums ⟨l.toArray⟩ = uB n ++ (L.take (i + 1)).flatMap tx ∧ BD w4 w.heap.size w.heap.size l) := ⟨_, by rw [nums_list, HNL.out, HTT.out, HS.out, List.append_assoc], hb4⟩
   have HB4 : Hid (Below w.heap.size w w4) := HB3.out.trans (b4.mono (Nat.le_refl _))
   clear hb4 b4 HCX HB3
   go_wp2
   go_roundw
   case rel => exact ⟨i + 1, by go_num, by omega, HD4, HB4⟩
   case measure => simp [intOf]; omega
  ·have HTL : Hid (L.take i = L) := List.take_of_length_le (by rw [HL.out]; omega)
   rw [HTL.out] at HNL
   have HST := bstring_any w.heap.size w.heap.size l wr HBD.out (by omega)
   have HSU : Hid (type_of% HST) := HST
   clear HST HBD HTL
   go_wp2_with fail
   refine HSU.out.mono ?_
   rintro r w3 ⟨rfl, b3⟩
   go_wp2
   go_ret
   exact ⟨_, rfl, HNL.out, HBX.out.trans (b3.mono (Nat.le_refl _))⟩
theorem listText_glo (N : Nat) (w0 w : World) (tx : GloD → List Int) (U : Nat) (hU : U ≤ 400000) (L : List GloD) (o : Option Addr) (n cap : Nat) (hn : L.length = n) (hcap : n ≤ cap) (hmax : n ≤ 200)
  (hr : L = [] ∨ ∃ b f, o = some ⟨b, f, none⟩ ∧ b < N ∧ ∀ i (h : i < L.length) r, r < 3 → w0.cell? ⟨b, f + i * 3 + r, none⟩ = (GloD.cells L[i])[r]?)
  (hb : Below N w0 w) (hNw : N ≤ w.heap.size) (hlen : ∀ d ∈ L, (tx d).length ≤ U)
  (HLOOK : Hid (∀ d ∈ L, ∀ w', Below N w0 w' → N ≤ w'.heap.size → Calls Tryz.prog 80 #[.agg #[.int .u8 d.k, .bool d.m, .int .i64 d.s]] w' (Txt w' (tx d)))) :
  Calls Tryz.prog 128 #[.slice o n cap, .func (.func 80) #[] #[]] w (Txt w (uB n ++ L.flatMap tx)) := by
 have HBW : Hid (Below N w0 w) := hb
 have HL : Hid (L.length = n) := hn
 have HSZ : Hid (N ≤ w.heap.size) := hNw
 have HLE : Hid (∀ d ∈ L, (tx d).length ≤ U) := hlen
 have hu := uB_len10 n (by omega)
 have HN : Hid (type_of% (numberText_any (n : Int) (by omega) (by omega) (w.alloc (.cells #[.pointer none, .slice none 0 0] 223)))) := numberText_any (n : Int) (by omega) (by omega) (w.alloc (.cells #[.pointer none, .slice none 0 0] 223))
 have HD0 : Hid (BD (w.alloc (.cells #[.pointer none, .slice none 0 0] 223)) w.heap.size w.heap.size []) := BD.new w
 rcases hr with rfl | ⟨b, f, rfl, hbN, hcells⟩
 ·have hn0 : n = 0 := by rw [← hn]; rfl
  subst hn0
  clear hb hn hNw hlen
  go_enter Tryz.func128, Tryz.ntmps128
  go_wp2_with fail
  refine HN.out.mono ?_
  rintro r w1 ⟨t, rfl, ht, b1⟩
  have hz := size_of ht
  have hs1 := b1.size
  rw [World.size_alloc] at hs1
  have HT : Hid (nums t = uB 0) := ht
  have HCW := bwrite_any w.heap.size w.heap.size [] t w1 (HD0.out.under b1) (by simp at hz ⊢; omega) (by omega)
  have HCX : Hid (type_of% HCW) := HCW
  have HB1 : Hid (Below w.heap.size w w1) := ((Below.refl _ _).alloc (Nat.le_refl _) _).trans (b1.mono (by simp))
  clear HCW ht b1 HN HD0
  go_wp2_with fail
  refine HCX.out.mono ?_
  rintro r w2 ⟨rfl, hb2, b2⟩
  have HD2 : Hid (∃ l : List UInt8, nums ⟨l.toArray⟩ = uB 0 ∧ l.length ≤ 10 ∧ BD w2 w.heap.size w.heap.size l) := ⟨_, by rw [nums_list, HT.out]; rfl, Nat.le_trans (Nat.le_of_eq (len_of_size t)) (by rw [hz]; exact hu), hb2⟩
  have HB2 : Hid (Below w.heap.size w w2) := HB1.out.trans (b2.mono (Nat.le_refl _))
  clear hb2 b2 HCX HB1
  go_wp2
  go_loopw [14] (fun iv wr => iv = .int .i64 0 ∧ Hid (∃ l : List UInt8, nums ⟨l.toArray⟩ = uB 0 ∧ l.length ≤ 10 ∧ BD wr w.heap.size w.heap.size l) ∧ Hid (Below w.heap.size w wr)) (fun _ _ => 0)
  case atStart => exact ⟨rfl, HD2, HB2⟩
  case round =>
   obtain ⟨rfl, HD, HB⟩ := hrel
   obtain ⟨l, hnl, hll, hbd⟩ := HD.out
   have HNL : Hid (type_of% hnl) := hnl
   have hlt0 := hbd.lt
   have HST := bstring_any w.heap.size w.heap.size l wr hbd (by omega)
   have HSU : Hid (type_of% HST) := HST
   clear HST hbd hnl
   go_wp2_with fail
   refine HSU.out.mono ?_
   rintro r w3 ⟨rfl, b3⟩
   go_wp2
   go_ret
   exact ⟨_, rfl, by rw [HNL.out]; simp, HB.out.trans (b3.mono (Nat.le_refl _))⟩
 have HR : Hid (type_of% hcells) := hcells
 clear hb hcells hn hNw hlen
 go_enter Tryz.func128, Tryz.ntmps128
 go_wp2_with fail
 refine HN.out.mono ?_
 rintro r w1 ⟨t, rfl, ht, b1⟩
 have hz := size_of ht
 have hs1 := b1.size
 rw [World.size_alloc] at hs1
 rw [Int.toNat_natCast] at hz ht
 have HT : Hid (nums t = uB n) := ht
 have HCW := bwrite_any w.heap.size w.heap.size [] t w1 (HD0.out.under b1) (by simp; omega) (by omega)
 have HCX : Hid (type_of% HCW) := HCW
 have HB1 : Hid (Below w.heap.size w w1) := ((Below.refl _ _).alloc (Nat.le_refl _) _).trans (b1.mono (by simp))
 clear HCW ht b1 HN HD0
 go_wp2_with fail
 refine HCX.out.mono ?_
 rintro r w2 ⟨rfl, hb2, b2⟩
 have HD2 : Hid (∃ l : List UInt8, nums ⟨l.toArray⟩ = uB n ++ (L.take 0).flatMap tx ∧ BD w2 w.heap.size w.heap.size l) := ⟨_, by rw [nums_list, HT.out]; simp; rfl, hb2⟩
 have HB2 : Hid (Below w.heap.size w w2) := HB1.out.trans (b2.mono (Nat.le_refl _))
 clear hb2 b2 HCX HB1
 go_wp2
 go_loopw [14] (fun iv wr => ∃ i : Nat, iv = .int .i64 (i : Int) ∧ i ≤ n ∧ Hid (∃ l : List UInt8, nums ⟨l.toArray⟩ = uB n ++ (L.take i).flatMap tx ∧ BD wr w.heap.size w.heap.size l) ∧ Hid (Below w.heap.size w wr)) (fun iv _ => n - (intOf iv).toNat)
 case atStart => exact ⟨0, rfl, by omega, HD2, HB2⟩
 case round =>
  obtain ⟨i, rfl, hin, HD, HBX⟩ := hrel
  have HB : Hid (Below N w0 wr) := HBW.out.trans (HBX.out.mono HSZ.out)
  obtain ⟨l, hnl, hbd⟩ := HD.out
  have hll : l.length ≤ 10 + i * U := by
   rw [← nums_len', hnl, List.length_append]
   have := flat_le tx U (L.take i) fun d hd => HLE.out d (List.take_subset _ _ hd)
   rw [List.length_take] at this
   have h2 : min i L.length * U ≤ i * U := Nat.mul_le_mul_right _ (Nat.min_le_left _ _)
   omega
  have hiU : i * U ≤ 200 * 400000 := Nat.mul_le_mul (by omega) hU
  have hw1 : w.heap.size < wr.heap.size := hbd.lt
  have HNL : Hid (type_of% hnl) := hnl
  have HBD : Hid (type_of% hbd) := hbd
  clear HD hnl hbd HD2 HB2
  by_cases hlt : i < n
  ·have hiL : i < L.length := by rw [HL.out]; exact hlt
   have hi0 : (0 : Int) ≤ (i : Int) := by omega
   have hi1 : (i : Int) < (n : Int) := by omega
   have HS : Hid ((L.take (i + 1)).flatMap tx = (L.take i).flatMap tx ++ tx L[i]) := by
    unfold Hid
    rw [List.take_succ_eq_append_getElem hiL, List.flatMap_append]
    simp
   have HLK : Hid (type_of% (HLOOK.out L[i] (List.getElem_mem hiL))) := HLOOK.out L[i] (List.getElem_mem hiL)
   have hdl : (tx L[i]).length ≤ U := HLE.out _ (List.getElem_mem hiL)
   have HCC : Hid (∀ r, r < 3 → wr.cell? ⟨b, f + i * 3 + r, none⟩ = (GloD.cells L[i])[r]?) := fun r hr => by
    rw [HB.out.cell (p := ⟨b, f + i * 3 + r, none⟩) hbN]
    exact HR.out i hiL r hr
   obtain ⟨d, hd⟩ : ∃ d, d = L[i] := ⟨_, rfl⟩
   rw [← hd] at HS HLK HCC hdl
   clear hd
   obtain ⟨cd, hcd⟩ : ∃ cd, cd = tx d := ⟨_, rfl⟩
   rw [← hcd] at HS HLK hdl
   clear hcd
   obtain ⟨k1, m1, s1⟩ := d
   have e0 : wr.cell? ⟨b, f + i * 3, none⟩ = some (.int .u8 k1) := HCC.out 0 (by omega)
   have e1 : wr.cell? ⟨b, f + i * 3 + 1, none⟩ = some (.bool m1) := HCC.out 1 (by omega)
   have e2 : wr.cell? ⟨b, f + i * 3 + 2, none⟩ = some (.int .i64 s1) := HCC.out 2 (by omega)
   have hs0 : (wr.alloc (.cells #[.int .u8 0, .bool false, .int .i64 0] 63)).heap.size = wr.heap.size + 1 := by simp
   have hbn : b ≠ wr.heap.size := by
    have := HB.out.size
    have h3 := HSZ.out
    omega
   have HNW : Hid (N ≤ wr.heap.size) := by have h3 := HSZ.out; unfold Hid; omega
   have HBA : Hid (Below N w0 (wr.alloc (.cells #[.int .u8 k1, .bool m1, .int .i64 s1] 63))) := HB.out.alloc HNW.out _
   have HSW : Hid (N ≤ ((wr.alloc (.cells #[.int .u8 k1, .bool m1, .int .i64 s1] 63))).heap.size) := by
    have h4 := HNW.out
    unfold Hid
    simp
    omega
   have HXA : Hid (Below w.heap.size w (wr.alloc (.cells #[.int .u8 k1, .bool m1, .int .i64 s1] 63))) := HBX.out.alloc HBX.out.size _
   have HBDA : Hid (BD (wr.alloc (.cells #[.int .u8 k1, .bool m1, .int .i64 s1] 63)) w.heap.size w.heap.size l) := HBD.out.under ((Below.refl _ _).alloc (Nat.le_refl _) _)
   have hza : w.heap.size ≤ ((wr.alloc (.cells #[.int .u8 k1, .bool m1, .int .i64 s1] 63))).heap.size := HXA.out.size
   clear HBD
   go_wp2_with fail
   refine (HLK.out _ HBA.out HSW.out).mono ?_
   rintro r w3 ⟨tt, rfl, htt, b3⟩
   have hzt := size_of htt
   have hs3 := b3.size
   have HTT : Hid (nums tt = cd) := htt
   have HCW := bwrite_any w.heap.size w.heap.size l tt w3 (HBDA.out.under b3) (by omega) (by omega)
   have HCX : Hid (type_of% HCW) := HCW
   have HB3 : Hid (Below w.heap.size w w3) := HXA.out.trans (b3.mono hza)
   clear HCW htt b3 HBDA HXA HBA HSW HLK HCC e0 e1 e2
   go_wp2_with fail
   refine HCX.out.mono ?_
   rintro r w4 ⟨rfl, hb4, b4⟩
   have HD4 : Hid (∃ l : List UInt8, nums ⟨l.toArray⟩ = uB n ++ (L.take (i + 1)).flatMap tx ∧ BD w4 w.heap.size w.heap.size l) := ⟨_, by rw [nums_list, HNL.out, HTT.out, HS.out, List.append_assoc], hb4⟩
   have HB4 : Hid (Below w.heap.size w w4) := HB3.out.trans (b4.mono (Nat.le_refl _))
   clear hb4 b4 HCX HB3
   go_wp2
   go_roundw
   case rel => exact ⟨i + 1, by go_num, by omega, HD4, HB4⟩
   case measure => simp [intOf]; omega
  ·have HTL : Hid (L.take i = L) := List.take_of_length_le (by rw [HL.out]; omega)
   rw [HTL.out] at HNL
   have HST := bstring_any w.heap.size w.heap.size l wr HBD.out (by omega)
   have HSU : Hid (type_of% HST) := HST
   clear HST HBD HTL
   go_wp2_with fail
   refine HSU.out.mono ?_
   rintro r w3 ⟨rfl, b3⟩
   go_wp2
   go_ret
   exact ⟨_, rfl, HNL.out, HBX.out.trans (b3.mono (Nat.le_refl _))⟩
theorem listText_exp (N : Nat) (w0 w : World) (tx : NamD → List Int) (U : Nat) (hU : U ≤ 400000) (L : List NamD) (o : Option Addr) (n cap : Nat) (hn : L.length = n) (hcap : n ≤ cap) (hmax : n ≤ 200)
  (hr : L = [] ∨ ∃ b f, o = some ⟨b, f, none⟩ ∧ b < N ∧ ∀ i (h : i < L.length) r, r < 2 → w0.cell? ⟨b, f + i * 2 + r, none⟩ = (NamD.cells L[i])[r]?)
  (hb : Below N w0 w) (hNw : N ≤ w.heap.size) (hlen : ∀ d ∈ L, (tx d).length ≤ U)
  (HLOOK : Hid (∀ d ∈ L, ∀ w', Below N w0 w' → N ≤ w'.heap.size → Calls Tryz.prog 82 #[.agg #[.string d.s, .int .i64 d.n]] w' (Txt w' (tx d)))) :
  Calls Tryz.prog 131 #[.slice o n cap, .func (.func 82) #[] #[]] w (Txt w (uB n ++ L.flatMap tx)) := by
 have HBW : Hid (Below N w0 w) := hb
 have HL : Hid (L.length = n) := hn
 have HSZ : Hid (N ≤ w.heap.size) := hNw
 have HLE : Hid (∀ d ∈ L, (tx d).length ≤ U) := hlen
 have hu := uB_len10 n (by omega)
 have HN : Hid (type_of% (numberText_any (n : Int) (by omega) (by omega) (w.alloc (.cells #[.pointer none, .slice none 0 0] 223)))) := numberText_any (n : Int) (by omega) (by omega) (w.alloc (.cells #[.pointer none, .slice none 0 0] 223))
 have HD0 : Hid (BD (w.alloc (.cells #[.pointer none, .slice none 0 0] 223)) w.heap.size w.heap.size []) := BD.new w
 rcases hr with rfl | ⟨b, f, rfl, hbN, hcells⟩
 ·have hn0 : n = 0 := by rw [← hn]; rfl
  subst hn0
  clear hb hn hNw hlen
  go_enter Tryz.func131, Tryz.ntmps131
  go_wp2_with fail
  refine HN.out.mono ?_
  rintro r w1 ⟨t, rfl, ht, b1⟩
  have hz := size_of ht
  have hs1 := b1.size
  rw [World.size_alloc] at hs1
  have HT : Hid (nums t = uB 0) := ht
  have HCW := bwrite_any w.heap.size w.heap.size [] t w1 (HD0.out.under b1) (by simp at hz ⊢; omega) (by omega)
  have HCX : Hid (type_of% HCW) := HCW
  have HB1 : Hid (Below w.heap.size w w1) := ((Below.refl _ _).alloc (Nat.le_refl _) _).trans (b1.mono (by simp))
  clear HCW ht b1 HN HD0
  go_wp2_with fail
  refine HCX.out.mono ?_
  rintro r w2 ⟨rfl, hb2, b2⟩
  have HD2 : Hid (∃ l : List UInt8, nums ⟨l.toArray⟩ = uB 0 ∧ l.length ≤ 10 ∧ BD w2 w.heap.size w.heap.size l) := ⟨_, by rw [nums_list, HT.out]; rfl, Nat.le_trans (Nat.le_of_eq (len_of_size t)) (by rw [hz]; exact hu), hb2⟩
  have HB2 : Hid (Below w.heap.size w w2) := HB1.out.trans (b2.mono (Nat.le_refl _))
  clear hb2 b2 HCX HB1
  go_wp2
  go_loopw [14] (fun iv wr => iv = .int .i64 0 ∧ Hid (∃ l : List UInt8, nums ⟨l.toArray⟩ = uB 0 ∧ l.length ≤ 10 ∧ BD wr w.heap.size w.heap.size l) ∧ Hid (Below w.heap.size w wr)) (fun _ _ => 0)
  case atStart => exact ⟨rfl, HD2, HB2⟩
  case round =>
   obtain ⟨rfl, HD, HB⟩ := hrel
   obtain ⟨l, hnl, hll, hbd⟩ := HD.out
   have HNL : Hid (type_of% hnl) := hnl
   have hlt0 := hbd.lt
   have HST := bstring_any w.heap.size w.heap.size l wr hbd (by omega)
   have HSU : Hid (type_of% HST) := HST
   clear HST hbd hnl
   go_wp2_with fail
   refine HSU.out.mono ?_
   rintro r w3 ⟨rfl, b3⟩
   go_wp2
   go_ret
   exact ⟨_, rfl, by rw [HNL.out]; simp, HB.out.trans (b3.mono (Nat.le_refl _))⟩
 have HR : Hid (type_of% hcells) := hcells
 clear hb hcells hn hNw hlen
 go_enter Tryz.func131, Tryz.ntmps131
 go_wp2_with fail
 refine HN.out.mono ?_
 rintro r w1 ⟨t, rfl, ht, b1⟩
 have hz := size_of ht
 have hs1 := b1.size
 rw [World.size_alloc] at hs1
 rw [Int.toNat_natCast] at hz ht
 have HT : Hid (nums t = uB n) := ht
 have HCW := bwrite_any w.heap.size w.heap.size [] t w1 (HD0.out.under b1) (by simp; omega) (by omega)
 have HCX : Hid (type_of% HCW) := HCW
 have HB1 : Hid (Below w.heap.size w w1) := ((Below.refl _ _).alloc (Nat.le_refl _) _).trans (b1.mono (by simp))
 clear HCW ht b1 HN HD0
 go_wp2_with fail
 refine HCX.out.mono ?_
 rintro r w2 ⟨rfl, hb2, b2⟩
 have HD2 : Hid (∃ l : List UInt8, nums ⟨l.toArray⟩ = uB n ++ (L.take 0).flatMap tx ∧ BD w2 w.heap.size w.heap.size l) := ⟨_, by rw [nums_list, HT.out]; simp; rfl, hb2⟩
 have HB2 : Hid (Below w.heap.size w w2) := HB1.out.trans (b2.mono (Nat.le_refl _))
 clear hb2 b2 HCX HB1
 go_wp2
 go_loopw [14] (fun iv wr => ∃ i : Nat, iv = .int .i64 (i : Int) ∧ i ≤ n ∧ Hid (∃ l : List UInt8, nums ⟨l.toArray⟩ = uB n ++ (L.take i).flatMap tx ∧ BD wr w.heap.size w.heap.size l) ∧ Hid (Below w.heap.size w wr)) (fun iv _ => n - (intOf iv).toNat)
 case atStart => exact ⟨0, rfl, by omega, HD2, HB2⟩
 case round =>
  obtain ⟨i, rfl, hin, HD, HBX⟩ := hrel
  have HB : Hid (Below N w0 wr) := HBW.out.trans (HBX.out.mono HSZ.out)
  obtain ⟨l, hnl, hbd⟩ := HD.out
  have hll : l.length ≤ 10 + i * U := by
   rw [← nums_len', hnl, List.length_append]
   have := flat_le tx U (L.take i) fun d hd => HLE.out d (List.take_subset _ _ hd)
   rw [List.length_take] at this
   have h2 : min i L.length * U ≤ i * U := Nat.mul_le_mul_right _ (Nat.min_le_left _ _)
   omega
  have hiU : i * U ≤ 200 * 400000 := Nat.mul_le_mul (by omega) hU
  have hw1 : w.heap.size < wr.heap.size := hbd.lt
  have HNL : Hid (type_of% hnl) := hnl
  have HBD : Hid (type_of% hbd) := hbd
  clear HD hnl hbd HD2 HB2
  by_cases hlt : i < n
  ·have hiL : i < L.length := by rw [HL.out]; exact hlt
   have hi0 : (0 : Int) ≤ (i : Int) := by omega
   have hi1 : (i : Int) < (n : Int) := by omega
   have HS : Hid ((L.take (i + 1)).flatMap tx = (L.take i).flatMap tx ++ tx L[i]) := by
    unfold Hid
    rw [List.take_succ_eq_append_getElem hiL, List.flatMap_append]
    simp
   have HLK : Hid (type_of% (HLOOK.out L[i] (List.getElem_mem hiL))) := HLOOK.out L[i] (List.getElem_mem hiL)
   have hdl : (tx L[i]).length ≤ U := HLE.out _ (List.getElem_mem hiL)
   have HCC : Hid (∀ r, r < 2 → wr.cell? ⟨b, f + i * 2 + r, none⟩ = (NamD.cells L[i])[r]?) := fun r hr => by
    rw [HB.out.cell (p := ⟨b, f + i * 2 + r, none⟩) hbN]
    exact HR.out i hiL r hr
   obtain ⟨d, hd⟩ : ∃ d, d = L[i] := ⟨_, rfl⟩
   rw [← hd] at HS HLK HCC hdl
   clear hd
   obtain ⟨cd, hcd⟩ : ∃ cd, cd = tx d := ⟨_, rfl⟩
   rw [← hcd] at HS HLK hdl
   clear hcd
   obtain ⟨s1, n1⟩ := d
   have e0 : wr.cell? ⟨b, f + i * 2, none⟩ = some (.string s1) := HCC.out 0 (by omega)
   have e1 : wr.cell? ⟨b, f + i * 2 + 1, none⟩ = some (.int .i64 n1) := HCC.out 1 (by omega)
   have hs0 : (wr.alloc (.cells #[.string ⟨#[]⟩, .int .i64 0] 65)).heap.size = wr.heap.size + 1 := by simp
   have hbn : b ≠ wr.heap.size := by
    have := HB.out.size
    have h3 := HSZ.out
    omega
   have HNW : Hid (N ≤ wr.heap.size) := by have h3 := HSZ.out; unfold Hid; omega
   have HBA : Hid (Below N w0 (wr.alloc (.cells #[.string s1, .int .i64 n1] 65))) := HB.out.alloc HNW.out _
   have HSW : Hid (N ≤ ((wr.alloc (.cells #[.string s1, .int .i64 n1] 65))).heap.size) := by
    have h4 := HNW.out
    unfold Hid
    simp
    omega
   have HXA : Hid (Below w.heap.size w (wr.alloc (.cells #[.string s1, .int .i64 n1] 65))) := HBX.out.alloc HBX.out.size _
   have HBDA : Hid (BD (wr.alloc (.cells #[.string s1, .int .i64 n1] 65)) w.heap.size w.heap.size l) := HBD.out.under ((Below.refl _ _).alloc (Nat.le_refl _) _)
   have hza : w.heap.size ≤ ((wr.alloc (.cells #[.string s1, .int .i64 n1] 65))).heap.size := HXA.out.size
   clear HBD
   go_wp2_with fail
   refine (HLK.out _ HBA.out HSW.out).mono ?_
   rintro r w3 ⟨tt, rfl, htt, b3⟩
   have hzt := size_of htt
   have hs3 := b3.size
   have HTT : Hid (nums tt = cd) := htt
   have HCW := bwrite_any w.heap.size w.heap.size l tt w3 (HBDA.out.under b3) (by omega) (by omega)
   have HCX : Hid (type_of% HCW) := HCW
   have HB3 : Hid (Below w.heap.size w w3) := HXA.out.trans (b3.mono hza)
   clear HCW htt b3 HBDA HXA HBA HSW HLK HCC e0 e1
   go_wp2_with fail
   refine HCX.out.mono ?_
   rintro r w4 ⟨rfl, hb4, b4⟩
   have HD4 : Hid (∃ l : List UInt8, nums ⟨l.toArray⟩ = uB n ++ (L.take (i + 1)).flatMap tx ∧ BD w4 w.heap.size w.heap.size l) := ⟨_, by rw [nums_list, HNL.out, HTT.out, HS.out, List.append_assoc], hb4⟩
   have HB4 : Hid (Below w.heap.size w w4) := HB3.out.trans (b4.mono (Nat.le_refl _))
   clear hb4 b4 HCX HB3
   go_wp2
   go_roundw
   case rel => exact ⟨i + 1, by go_num, by omega, HD4, HB4⟩
   case measure => simp [intOf]; omega
  ·have HTL : Hid (L.take i = L) := List.take_of_length_le (by rw [HL.out]; omega)
   rw [HTL.out] at HNL
   have HST := bstring_any w.heap.size w.heap.size l wr HBD.out (by omega)
   have HSU : Hid (type_of% HST) := HST
   clear HST HBD HTL
   go_wp2_with fail
   refine HSU.out.mono ?_
   rintro r w3 ⟨rfl, b3⟩
   go_wp2
   go_ret
   exact ⟨_, rfl, HNL.out, HBX.out.trans (b3.mono (Nat.le_refl _))⟩
theorem listText_ele (N : Nat) (w0 w : World) (tx : EleD → List Int) (U : Nat) (hU : U ≤ 400000) (L : List EleD) (o : Option Addr) (n cap : Nat) (hn : L.length = n) (hcap : n ≤ cap) (hmax : n ≤ 200)
  (hr : L = [] ∨ ∃ b f, o = some ⟨b, f, none⟩ ∧ b < N ∧ ∀ i (h : i < L.length) r, r < 2 → w0.cell? ⟨b, f + i * 2 + r, none⟩ = (EleD.cells L[i])[r]?)
  (hb : Below N w0 w) (hNw : N ≤ w.heap.size) (hlen : ∀ d ∈ L, (tx d).length ≤ U)
  (HLOOK : Hid (∀ d ∈ L, ∀ w', Below N w0 w' → N ≤ w'.heap.size → Calls Tryz.prog 85 #[.agg #[.int .i64 d.a, .slice d.f.o d.f.n d.f.cap]] w' (Txt w' (tx d)))) :
  Calls Tryz.prog 132 #[.slice o n cap, .func (.func 85) #[] #[]] w (Txt w (uB n ++ L.flatMap tx)) := by
 have HBW : Hid (Below N w0 w) := hb
 have HL : Hid (L.length = n) := hn
 have HSZ : Hid (N ≤ w.heap.size) := hNw
 have HLE : Hid (∀ d ∈ L, (tx d).length ≤ U) := hlen
 have hu := uB_len10 n (by omega)
 have HN : Hid (type_of% (numberText_any (n : Int) (by omega) (by omega) (w.alloc (.cells #[.pointer none, .slice none 0 0] 223)))) := numberText_any (n : Int) (by omega) (by omega) (w.alloc (.cells #[.pointer none, .slice none 0 0] 223))
 have HD0 : Hid (BD (w.alloc (.cells #[.pointer none, .slice none 0 0] 223)) w.heap.size w.heap.size []) := BD.new w
 rcases hr with rfl | ⟨b, f, rfl, hbN, hcells⟩
 ·have hn0 : n = 0 := by rw [← hn]; rfl
  subst hn0
  clear hb hn hNw hlen
  go_enter Tryz.func132, Tryz.ntmps132
  go_wp2_with fail
  refine HN.out.mono ?_
  rintro r w1 ⟨t, rfl, ht, b1⟩
  have hz := size_of ht
  have hs1 := b1.size
  rw [World.size_alloc] at hs1
  have HT : Hid (nums t = uB 0) := ht
  have HCW := bwrite_any w.heap.size w.heap.size [] t w1 (HD0.out.under b1) (by simp at hz ⊢; omega) (by omega)
  have HCX : Hid (type_of% HCW) := HCW
  have HB1 : Hid (Below w.heap.size w w1) := ((Below.refl _ _).alloc (Nat.le_refl _) _).trans (b1.mono (by simp))
  clear HCW ht b1 HN HD0
  go_wp2_with fail
  refine HCX.out.mono ?_
  rintro r w2 ⟨rfl, hb2, b2⟩
  have HD2 : Hid (∃ l : List UInt8, nums ⟨l.toArray⟩ = uB 0 ∧ l.length ≤ 10 ∧ BD w2 w.heap.size w.heap.size l) := ⟨_, by rw [nums_list, HT.out]; rfl, Nat.le_trans (Nat.le_of_eq (len_of_size t)) (by rw [hz]; exact hu), hb2⟩
  have HB2 : Hid (Below w.heap.size w w2) := HB1.out.trans (b2.mono (Nat.le_refl _))
  clear hb2 b2 HCX HB1
  go_wp2
  go_loopw [14] (fun iv wr => iv = .int .i64 0 ∧ Hid (∃ l : List UInt8, nums ⟨l.toArray⟩ = uB 0 ∧ l.length ≤ 10 ∧ BD wr w.heap.size w.heap.size l) ∧ Hid (Below w.heap.size w wr)) (fun _ _ => 0)
  case atStart => exact ⟨rfl, HD2, HB2⟩
  case round =>
   obtain ⟨rfl, HD, HB⟩ := hrel
   obtain ⟨l, hnl, hll, hbd⟩ := HD.out
   have HNL : Hid (type_of% hnl) := hnl
   have hlt0 := hbd.lt
   have HST := bstring_any w.heap.size w.heap.size l wr hbd (by omega)
   have HSU : Hid (type_of% HST) := HST
   clear HST hbd hnl
   go_wp2_with fail
   refine HSU.out.mono ?_
   rintro r w3 ⟨rfl, b3⟩
   go_wp2
   go_ret
   exact ⟨_, rfl, by rw [HNL.out]; simp, HB.out.trans (b3.mono (Nat.le_refl _))⟩
 have HR : Hid (type_of% hcells) := hcells
 clear hb hcells hn hNw hlen
 go_enter Tryz.func132, Tryz.ntmps132
 go_wp2_with fail
 refine HN.out.mono ?_
 rintro r w1 ⟨t, rfl, ht, b1⟩
 have hz := size_of ht
 have hs1 := b1.size
 rw [World.size_alloc] at hs1
 rw [Int.toNat_natCast] at hz ht
 have HT : Hid (nums t = uB n) := ht
 have HCW := bwrite_any w.heap.size w.heap.size [] t w1 (HD0.out.under b1) (by simp; omega) (by omega)
 have HCX : Hid (type_of% HCW) := HCW
 have HB1 : Hid (Below w.heap.size w w1) := ((Below.refl _ _).alloc (Nat.le_refl _) _).trans (b1.mono (by simp))
 clear HCW ht b1 HN HD0
 go_wp2_with fail
 refine HCX.out.mono ?_
 rintro r w2 ⟨rfl, hb2, b2⟩
 have HD2 : Hid (∃ l : List UInt8, nums ⟨l.toArray⟩ = uB n ++ (L.take 0).flatMap tx ∧ BD w2 w.heap.size w.heap.size l) := ⟨_, by rw [nums_list, HT.out]; simp; rfl, hb2⟩
 have HB2 : Hid (Below w.heap.size w w2) := HB1.out.trans (b2.mono (Nat.le_refl _))
 clear hb2 b2 HCX HB1
 go_wp2
 go_loopw [14] (fun iv wr => ∃ i : Nat, iv = .int .i64 (i : Int) ∧ i ≤ n ∧ Hid (∃ l : List UInt8, nums ⟨l.toArray⟩ = uB n ++ (L.take i).flatMap tx ∧ BD wr w.heap.size w.heap.size l) ∧ Hid (Below w.heap.size w wr)) (fun iv _ => n - (intOf iv).toNat)
 case atStart => exact ⟨0, rfl, by omega, HD2, HB2⟩
 case round =>
  obtain ⟨i, rfl, hin, HD, HBX⟩ := hrel
  have HB : Hid (Below N w0 wr) := HBW.out.trans (HBX.out.mono HSZ.out)
  obtain ⟨l, hnl, hbd⟩ := HD.out
  have hll : l.length ≤ 10 + i * U := by
   rw [← nums_len', hnl, List.length_append]
   have := flat_le tx U (L.take i) fun d hd => HLE.out d (List.take_subset _ _ hd)
   rw [List.length_take] at this
   have h2 : min i L.length * U ≤ i * U := Nat.mul_le_mul_right _ (Nat.min_le_left _ _)
   omega
  have hiU : i * U ≤ 200 * 400000 := Nat.mul_le_mul (by omega) hU
  have hw1 : w.heap.size < wr.heap.size := hbd.lt
  have HNL : Hid (type_of% hnl) := hnl
  have HBD : Hid (type_of% hbd) := hbd
  clear HD hnl hbd HD2 HB2
  by_cases hlt : i < n
  ·have hiL : i < L.length := by rw [HL.out]; exact hlt
   have hi0 : (0 : Int) ≤ (i : Int) := by omega
   have hi1 : (i : Int) < (n : Int) := by omega
   have HS : Hid ((L.take (i + 1)).flatMap tx = (L.take i).flatMap tx ++ tx L[i]) := by
    unfold Hid
    rw [List.take_succ_eq_append_getElem hiL, List.flatMap_append]
    simp
   have HLK : Hid (type_of% (HLOOK.out L[i] (List.getElem_mem hiL))) := HLOOK.out L[i] (List.getElem_mem hiL)
   have hdl : (tx L[i]).length ≤ U := HLE.out _ (List.getElem_mem hiL)
   have HCC : Hid (∀ r, r < 2 → wr.cell? ⟨b, f + i * 2 + r, none⟩ = (EleD.cells L[i])[r]?) := fun r hr => by
    rw [HB.out.cell (p := ⟨b, f + i * 2 + r, none⟩) hbN]
    exact HR.out i hiL r hr
   obtain ⟨d, hd⟩ : ∃ d, d = L[i] := ⟨_, rfl⟩
   rw [← hd] at HS HLK HCC hdl
   clear hd
   obtain ⟨cd, hcd⟩ : ∃ cd, cd = tx d := ⟨_, rfl⟩
   rw [← hcd] at HS HLK hdl
   clear hcd
   obtain ⟨y1, ⟨o2, n2, c2, x2⟩⟩ := d
   have e0 : wr.cell? ⟨b, f + i * 2, none⟩ = some (.int .i64 y1) := HCC.out 0 (by omega)
   have e1 : wr.cell? ⟨b, f + i * 2 + 1, none⟩ = some (.slice o2 n2 c2) := HCC.out 1 (by omega)
   have hs0 : (wr.alloc (.cells #[.int .i64 0, .slice none 0 0] 68)).heap.size = wr.heap.size + 1 := by simp
   have hbn : b ≠ wr.heap.size := by
    have := HB.out.size
    have h3 := HSZ.out
    omega
   have HNW : Hid (N ≤ wr.heap.size) := by have h3 := HSZ.out; unfold Hid; omega
   have HBA : Hid (Below N w0 (wr.alloc (.cells #[.int .i64 y1, .slice o2 n2 c2] 68))) := HB.out.alloc HNW.out _
   have HSW : Hid (N ≤ ((wr.alloc (.cells #[.int .i64 y1, .slice o2 n2 c2] 68))).heap.size) := by
    have h4 := HNW.out
    unfold Hid
    simp
    omega
   have HXA : Hid (Below w.heap.size w (wr.alloc (.cells #[.int .i64 y1, .slice o2 n2 c2] 68))) := HBX.out.alloc HBX.out.size _
   have HBDA : Hid (BD (wr.alloc (.cells #[.int .i64 y1, .slice o2 n2 c2] 68)) w.heap.size w.heap.size l) := HBD.out.under ((Below.refl _ _).alloc (Nat.le_refl _) _)
   have hza : w.heap.size ≤ ((wr.alloc (.cells #[.int .i64 y1, .slice o2 n2 c2] 68))).heap.size := HXA.out.size
   clear HBD
   go_wp2_with fail
   refine (HLK.out _ HBA.out HSW.out).mono ?_
   rintro r w3 ⟨tt, rfl, htt, b3⟩
   have hzt := size_of htt
   have hs3 := b3.size
   have HTT : Hid (nums tt = cd) := htt
   have HCW := bwrite_any w.heap.size w.heap.size l tt w3 (HBDA.out.under b3) (by omega) (by omega)
   have HCX : Hid (type_of% HCW) := HCW
   have HB3 : Hid (Below w.heap.size w w3) := HXA.out.trans (b3.mono hza)
   clear HCW htt b3 HBDA HXA HBA HSW HLK HCC e0 e1
   go_wp2_with fail
   refine HCX.out.mono ?_
   rintro r w4 ⟨rfl, hb4, b4⟩
   have HD4 : Hid (∃ l : List UInt8, nums ⟨l.toArray⟩ = uB n ++ (L.take (i + 1)).flatMap tx ∧ BD w4 w.heap.size w.heap.size l) := ⟨_, by rw [nums_list, HNL.out, HTT.out, HS.out, List.append_assoc], hb4⟩
   have HB4 : Hid (Below w.heap.size w w4) := HB3.out.trans (b4.mono (Nat.le_refl _))
   clear hb4 b4 HCX HB3
   go_wp2
   go_roundw
   case rel => exact ⟨i + 1, by go_num, by omega, HD4, HB4⟩
   case measure => simp [intOf]; omega
  ·have HTL : Hid (L.take i = L) := List.take_of_length_le (by rw [HL.out]; omega)
   rw [HTL.out] at HNL
   have HST := bstring_any w.heap.size w.heap.size l wr HBD.out (by omega)
   have HSU : Hid (type_of% HST) := HST
   clear HST HBD HTL
   go_wp2_with fail
   refine HSU.out.mono ?_
   rintro r w3 ⟨rfl, b3⟩
   go_wp2
   go_ret
   exact ⟨_, rfl, HNL.out, HBX.out.trans (b3.mono (Nat.le_refl _))⟩
theorem listText_dat (N : Nat) (w0 w : World) (tx : DatD → List Int) (U : Nat) (hU : U ≤ 400000) (L : List DatD) (o : Option Addr) (n cap : Nat) (hn : L.length = n) (hcap : n ≤ cap) (hmax : n ≤ 200)
  (hr : L = [] ∨ ∃ b f, o = some ⟨b, f, none⟩ ∧ b < N ∧ ∀ i (h : i < L.length) r, r < 2 → w0.cell? ⟨b, f + i * 2 + r, none⟩ = (DatD.cells L[i])[r]?)
  (hb : Below N w0 w) (hNw : N ≤ w.heap.size) (hlen : ∀ d ∈ L, (tx d).length ≤ U)
  (HLOOK : Hid (∀ d ∈ L, ∀ w', Below N w0 w' → N ≤ w'.heap.size → Calls Tryz.prog 88 #[.agg #[.int .i64 d.a, .string d.s]] w' (Txt w' (tx d)))) :
  Calls Tryz.prog 140 #[.slice o n cap, .func (.func 88) #[] #[]] w (Txt w (uB n ++ L.flatMap tx)) := by
 have HBW : Hid (Below N w0 w) := hb
 have HL : Hid (L.length = n) := hn
 have HSZ : Hid (N ≤ w.heap.size) := hNw
 have HLE : Hid (∀ d ∈ L, (tx d).length ≤ U) := hlen
 have hu := uB_len10 n (by omega)
 have HN : Hid (type_of% (numberText_any (n : Int) (by omega) (by omega) (w.alloc (.cells #[.pointer none, .slice none 0 0] 223)))) := numberText_any (n : Int) (by omega) (by omega) (w.alloc (.cells #[.pointer none, .slice none 0 0] 223))
 have HD0 : Hid (BD (w.alloc (.cells #[.pointer none, .slice none 0 0] 223)) w.heap.size w.heap.size []) := BD.new w
 rcases hr with rfl | ⟨b, f, rfl, hbN, hcells⟩
 ·have hn0 : n = 0 := by rw [← hn]; rfl
  subst hn0
  clear hb hn hNw hlen
  go_enter Tryz.func140, Tryz.ntmps140
  go_wp2_with fail
  refine HN.out.mono ?_
  rintro r w1 ⟨t, rfl, ht, b1⟩
  have hz := size_of ht
  have hs1 := b1.size
  rw [World.size_alloc] at hs1
  have HT : Hid (nums t = uB 0) := ht
  have HCW := bwrite_any w.heap.size w.heap.size [] t w1 (HD0.out.under b1) (by simp at hz ⊢; omega) (by omega)
  have HCX : Hid (type_of% HCW) := HCW
  have HB1 : Hid (Below w.heap.size w w1) := ((Below.refl _ _).alloc (Nat.le_refl _) _).trans (b1.mono (by simp))
  clear HCW ht b1 HN HD0
  go_wp2_with fail
  refine HCX.out.mono ?_
  rintro r w2 ⟨rfl, hb2, b2⟩
  have HD2 : Hid (∃ l : List UInt8, nums ⟨l.toArray⟩ = uB 0 ∧ l.length ≤ 10 ∧ BD w2 w.heap.size w.heap.size l) := ⟨_, by rw [nums_list, HT.out]; rfl, Nat.le_trans (Nat.le_of_eq (len_of_size t)) (by rw [hz]; exact hu), hb2⟩
  have HB2 : Hid (Below w.heap.size w w2) := HB1.out.trans (b2.mono (Nat.le_refl _))
  clear hb2 b2 HCX HB1
  go_wp2
  go_loopw [14] (fun iv wr => iv = .int .i64 0 ∧ Hid (∃ l : List UInt8, nums ⟨l.toArray⟩ = uB 0 ∧ l.length ≤ 10 ∧ BD wr w.heap.size w.heap.size l) ∧ Hid (Below w.heap.size w wr)) (fun _ _ => 0)
  case atStart => exact ⟨rfl, HD2, HB2⟩
  case round =>
   obtain ⟨rfl, HD, HB⟩ := hrel
   obtain ⟨l, hnl, hll, hbd⟩ := HD.out
   have HNL : Hid (type_of% hnl) := hnl
   have hlt0 := hbd.lt
   have HST := bstring_any w.heap.size w.heap.size l wr hbd (by omega)
   have HSU : Hid (type_of% HST) := HST
   clear HST hbd hnl
   go_wp2_with fail
   refine HSU.out.mono ?_
   rintro r w3 ⟨rfl, b3⟩
   go_wp2
   go_ret
   exact ⟨_, rfl, by rw [HNL.out]; simp, HB.out.trans (b3.mono (Nat.le_refl _))⟩
 have HR : Hid (type_of% hcells) := hcells
 clear hb hcells hn hNw hlen
 go_enter Tryz.func140, Tryz.ntmps140
 go_wp2_with fail
 refine HN.out.mono ?_
 rintro r w1 ⟨t, rfl, ht, b1⟩
 have hz := size_of ht
 have hs1 := b1.size
 rw [World.size_alloc] at hs1
 rw [Int.toNat_natCast] at hz ht
 have HT : Hid (nums t = uB n) := ht
 have HCW := bwrite_any w.heap.size w.heap.size [] t w1 (HD0.out.under b1) (by simp; omega) (by omega)
 have HCX : Hid (type_of% HCW) := HCW
 have HB1 : Hid (Below w.heap.size w w1) := ((Below.refl _ _).alloc (Nat.le_refl _) _).trans (b1.mono (by simp))
 clear HCW ht b1 HN HD0
 go_wp2_with fail
 refine HCX.out.mono ?_
 rintro r w2 ⟨rfl, hb2, b2⟩
 have HD2 : Hid (∃ l : List UInt8, nums ⟨l.toArray⟩ = uB n ++ (L.take 0).flatMap tx ∧ BD w2 w.heap.size w.heap.size l) := ⟨_, by rw [nums_list, HT.out]; simp; rfl, hb2⟩
 have HB2 : Hid (Below w.heap.size w w2) := HB1.out.trans (b2.mono (Nat.le_refl _))
 clear hb2 b2 HCX HB1
 go_wp2
 go_loopw [14] (fun iv wr => ∃ i : Nat, iv = .int .i64 (i : Int) ∧ i ≤ n ∧ Hid (∃ l : List UInt8, nums ⟨l.toArray⟩ = uB n ++ (L.take i).flatMap tx ∧ BD wr w.heap.size w.heap.size l) ∧ Hid (Below w.heap.size w wr)) (fun iv _ => n - (intOf iv).toNat)
 case atStart => exact ⟨0, rfl, by omega, HD2, HB2⟩
 case round =>
  obtain ⟨i, rfl, hin, HD, HBX⟩ := hrel
  have HB : Hid (Below N w0 wr) := HBW.out.trans (HBX.out.mono HSZ.out)
  obtain ⟨l, hnl, hbd⟩ := HD.out
  have hll : l.length ≤ 10 + i * U := by
   rw [← nums_len', hnl, List.length_append]
   have := flat_le tx U (L.take i) fun d hd => HLE.out d (List.take_subset _ _ hd)
   rw [List.length_take] at this
   have h2 : min i L.length * U ≤ i * U := Nat.mul_le_mul_right _ (Nat.min_le_left _ _)
   omega
  have hiU : i * U ≤ 200 * 400000 := Nat.mul_le_mul (by omega) hU
  have hw1 : w.heap.size < wr.heap.size := hbd.lt
  have HNL : Hid (type_of% hnl) := hnl
  have HBD : Hid (type_of% hbd) := hbd
  clear HD hnl hbd HD2 HB2
  by_cases hlt : i < n
  ·have hiL : i < L.length := by rw [HL.out]; exact hlt
   have hi0 : (0 : Int) ≤ (i : Int) := by omega
   have hi1 : (i : Int) < (n : Int) := by omega
   have HS : Hid ((L.take (i + 1)).flatMap tx = (L.take i).flatMap tx ++ tx L[i]) := by
    unfold Hid
    rw [List.take_succ_eq_append_getElem hiL, List.flatMap_append]
    simp
   have HLK : Hid (type_of% (HLOOK.out L[i] (List.getElem_mem hiL))) := HLOOK.out L[i] (List.getElem_mem hiL)
   have hdl : (tx L[i]).length ≤ U := HLE.out _ (List.getElem_mem hiL)
   have HCC : Hid (∀ r, r < 2 → wr.cell? ⟨b, f + i * 2 + r, none⟩ = (DatD.cells L[i])[r]?) := fun r hr => by
    rw [HB.out.cell (p := ⟨b, f + i * 2 + r, none⟩) hbN]
    exact HR.out i hiL r hr
   obtain ⟨d, hd⟩ : ∃ d, d = L[i] := ⟨_, rfl⟩
   rw [← hd] at HS HLK HCC hdl
   clear hd
   obtain ⟨cd, hcd⟩ : ∃ cd, cd = tx d := ⟨_, rfl⟩
   rw [← hcd] at HS HLK hdl
   clear hcd
   obtain ⟨y1, s1⟩ := d
   have e0 : wr.cell? ⟨b, f + i * 2, none⟩ = some (.int .i64 y1) := HCC.out 0 (by omega)
   have e1 : wr.cell? ⟨b, f + i * 2 + 1, none⟩ = some (.string s1) := HCC.out 1 (by omega)
   have hs0 : (wr.alloc (.cells #[.int .i64 0, .string ⟨#[]⟩] 70)).heap.size = wr.heap.size + 1 := by simp
   have hbn : b ≠ wr.heap.size := by
    have := HB.out.size
    have h3 := HSZ.out
    omega
   have HNW : Hid (N ≤ wr.heap.size) := by have h3 := HSZ.out; unfold Hid; omega
   have HBA : Hid (Below N w0 (wr.alloc (.cells #[.int .i64 y1, .string s1] 70))) := HB.out.alloc HNW.out _
   have HSW : Hid (N ≤ ((wr.alloc (.cells #[.int .i64 y1, .string s1] 70))).heap.size) := by
    have h4 := HNW.out
    unfold Hid
    simp
    omega
   have HXA : Hid (Below w.heap.size w (wr.alloc (.cells #[.int .i64 y1, .string s1] 70))) := HBX.out.alloc HBX.out.size _
   have HBDA : Hid (BD (wr.alloc (.cells #[.int .i64 y1, .string s1] 70)) w.heap.size w.heap.size l) := HBD.out.under ((Below.refl _ _).alloc (Nat.le_refl _) _)
   have hza : w.heap.size ≤ ((wr.alloc (.cells #[.int .i64 y1, .string s1] 70))).heap.size := HXA.out.size
   clear HBD
   go_wp2_with fail
   refine (HLK.out _ HBA.out HSW.out).mono ?_
   rintro r w3 ⟨tt, rfl, htt, b3⟩
   have hzt := size_of htt
   have hs3 := b3.size
   have HTT : Hid (nums tt = cd) := htt
   have HCW := bwrite_any w.heap.size w.heap.size l tt w3 (HBDA.out.under b3) (by omega) (by omega)
   have HCX : Hid (type_of% HCW) := HCW
   have HB3 : Hid (Below w.heap.size w w3) := HXA.out.trans (b3.mono hza)
   clear HCW htt b3 HBDA HXA HBA HSW HLK HCC e0 e1
   go_wp2_with fail
   refine HCX.out.mono ?_
   rintro r w4 ⟨rfl, hb4, b4⟩
   have HD4 : Hid (∃ l : List UInt8, nums ⟨l.toArray⟩ = uB n ++ (L.take (i + 1)).flatMap tx ∧ BD w4 w.heap.size w.heap.size l) := ⟨_, by rw [nums_list, HNL.out, HTT.out, HS.out, List.append_assoc], hb4⟩
   have HB4 : Hid (Below w.heap.size w w4) := HB3.out.trans (b4.mono (Nat.le_refl _))
   clear hb4 b4 HCX HB3
   go_wp2
   go_roundw
   case rel => exact ⟨i + 1, by go_num, by omega, HD4, HB4⟩
   case measure => simp [intOf]; omega
  ·have HTL : Hid (L.take i = L) := List.take_of_length_le (by rw [HL.out]; omega)
   rw [HTL.out] at HNL
   have HST := bstring_any w.heap.size w.heap.size l wr HBD.out (by omega)
   have HSU : Hid (type_of% HST) := HST
   clear HST HBD HTL
   go_wp2_with fail
   refine HSU.out.mono ?_
   rintro r w3 ⟨rfl, b3⟩
   go_wp2
   go_ret
   exact ⟨_, rfl, HNL.out, HBX.out.trans (b3.mono (Nat.le_refl _))⟩
theorem listText_grp (N : Nat) (w0 w : World) (tx : (Nat × Int) → List Int) (U : Nat) (hU : U ≤ 400000) (L : List (Nat × Int)) (o : Option Addr) (n cap : Nat) (hn : L.length = n) (hcap : n ≤ cap) (hmax : n ≤ 200)
  (hr : L = [] ∨ ∃ b f, o = some ⟨b, f, none⟩ ∧ b < N ∧ ∀ i (h : i < L.length) r, r < 2 → w0.cell? ⟨b, f + i * 2 + r, none⟩ = (grpCells L[i])[r]?)
  (hb : Below N w0 w) (hNw : N ≤ w.heap.size) (hlen : ∀ d ∈ L, (tx d).length ≤ U)
  (HLOOK : Hid (∀ d ∈ L, ∀ w', Below N w0 w' → N ≤ w'.heap.size → Calls Tryz.prog 139 #[.agg #[.int .i64 (d.1 : Int), .int .u8 d.2]] w' (Txt w' (tx d)))) :
  Calls Tryz.prog 137 #[.slice o n cap, .func (.func 139) #[] #[]] w (Txt w (uB n ++ L.flatMap tx)) := by
 have HBW : Hid (Below N w0 w) := hb
 have HL : Hid (L.length = n) := hn
 have HSZ : Hid (N ≤ w.heap.size) := hNw
 have HLE : Hid (∀ d ∈ L, (tx d).length ≤ U) := hlen
 have hu := uB_len10 n (by omega)
 have HN : Hid (type_of% (numberText_any (n : Int) (by omega) (by omega) (w.alloc (.cells #[.pointer none, .slice none 0 0] 223)))) := numberText_any (n : Int) (by omega) (by omega) (w.alloc (.cells #[.pointer none, .slice none 0 0] 223))
 have HD0 : Hid (BD (w.alloc (.cells #[.pointer none, .slice none 0 0] 223)) w.heap.size w.heap.size []) := BD.new w
 rcases hr with rfl | ⟨b, f, rfl, hbN, hcells⟩
 ·have hn0 : n = 0 := by rw [← hn]; rfl
  subst hn0
  clear hb hn hNw hlen
  go_enter Tryz.func137, Tryz.ntmps137
  go_wp2_with fail
  refine HN.out.mono ?_
  rintro r w1 ⟨t, rfl, ht, b1⟩
  have hz := size_of ht
  have hs1 := b1.size
  rw [World.size_alloc] at hs1
  have HT : Hid (nums t = uB 0) := ht
  have HCW := bwrite_any w.heap.size w.heap.size [] t w1 (HD0.out.under b1) (by simp at hz ⊢; omega) (by omega)
  have HCX : Hid (type_of% HCW) := HCW
  have HB1 : Hid (Below w.heap.size w w1) := ((Below.refl _ _).alloc (Nat.le_refl _) _).trans (b1.mono (by simp))
  clear HCW ht b1 HN HD0
  go_wp2_with fail
  refine HCX.out.mono ?_
  rintro r w2 ⟨rfl, hb2, b2⟩
  have HD2 : Hid (∃ l : List UInt8, nums ⟨l.toArray⟩ = uB 0 ∧ l.length ≤ 10 ∧ BD w2 w.heap.size w.heap.size l) := ⟨_, by rw [nums_list, HT.out]; rfl, Nat.le_trans (Nat.le_of_eq (len_of_size t)) (by rw [hz]; exact hu), hb2⟩
  have HB2 : Hid (Below w.heap.size w w2) := HB1.out.trans (b2.mono (Nat.le_refl _))
  clear hb2 b2 HCX HB1
  go_wp2
  go_loopw [14] (fun iv wr => iv = .int .i64 0 ∧ Hid (∃ l : List UInt8, nums ⟨l.toArray⟩ = uB 0 ∧ l.length ≤ 10 ∧ BD wr w.heap.size w.heap.size l) ∧ Hid (Below w.heap.size w wr)) (fun _ _ => 0)
  case atStart => exact ⟨rfl, HD2, HB2⟩
  case round =>
   obtain ⟨rfl, HD, HB⟩ := hrel
   obtain ⟨l, hnl, hll, hbd⟩ := HD.out
   have HNL : Hid (type_of% hnl) := hnl
   have hlt0 := hbd.lt
   have HST := bstring_any w.heap.size w.heap.size l wr hbd (by omega)
   have HSU : Hid (type_of% HST) := HST
   clear HST hbd hnl
   go_wp2_with fail
   refine HSU.out.mono ?_
   rintro r w3 ⟨rfl, b3⟩
   go_wp2
   go_ret
   exact ⟨_, rfl, by rw [HNL.out]; simp, HB.out.trans (b3.mono (Nat.le_refl _))⟩
 have HR : Hid (type_of% hcells) := hcells
 clear hb hcells hn hNw hlen
 go_enter Tryz.func137, Tryz.ntmps137
 go_wp2_with fail
 refine HN.out.mono ?_
 rintro r w1 ⟨t, rfl, ht, b1⟩
 have hz := size_of ht
 have hs1 := b1.size
 rw [World.size_alloc] at hs1
 rw [Int.toNat_natCast] at hz ht
 have HT : Hid (nums t = uB n) := ht
 have HCW := bwrite_any w.heap.size w.heap.size [] t w1 (HD0.out.under b1) (by simp; omega) (by omega)
 have HCX : Hid (type_of% HCW) := HCW
 have HB1 : Hid (Below w.heap.size w w1) := ((Below.refl _ _).alloc (Nat.le_refl _) _).trans (b1.mono (by simp))
 clear HCW ht b1 HN HD0
 go_wp2_with fail
 refine HCX.out.mono ?_
 rintro r w2 ⟨rfl, hb2, b2⟩
 have HD2 : Hid (∃ l : List UInt8, nums ⟨l.toArray⟩ = uB n ++ (L.take 0).flatMap tx ∧ BD w2 w.heap.size w.heap.size l) := ⟨_, by rw [nums_list, HT.out]; simp; rfl, hb2⟩
 have HB2 : Hid (Below w.heap.size w w2) := HB1.out.trans (b2.mono (Nat.le_refl _))
 clear hb2 b2 HCX HB1
 go_wp2
 go_loopw [14] (fun iv wr => ∃ i : Nat, iv = .int .i64 (i : Int) ∧ i ≤ n ∧ Hid (∃ l : List UInt8, nums ⟨l.toArray⟩ = uB n ++ (L.take i).flatMap tx ∧ BD wr w.heap.size w.heap.size l) ∧ Hid (Below w.heap.size w wr)) (fun iv _ => n - (intOf iv).toNat)
 case atStart => exact ⟨0, rfl, by omega, HD2, HB2⟩
 case round =>
  obtain ⟨i, rfl, hin, HD, HBX⟩ := hrel
  have HB : Hid (Below N w0 wr) := HBW.out.trans (HBX.out.mono HSZ.out)
  obtain ⟨l, hnl, hbd⟩ := HD.out
  have hll : l.length ≤ 10 + i * U := by
   rw [← nums_len', hnl, List.length_append]
   have := flat_le tx U (L.take i) fun d hd => HLE.out d (List.take_subset _ _ hd)
   rw [List.length_take] at this
   have h2 : min i L.length * U ≤ i * U := Nat.mul_le_mul_right _ (Nat.min_le_left _ _)
   omega
  have hiU : i * U ≤ 200 * 400000 := Nat.mul_le_mul (by omega) hU
  have hw1 : w.heap.size < wr.heap.size := hbd.lt
  have HNL : Hid (type_of% hnl) := hnl
  have HBD : Hid (type_of% hbd) := hbd
  clear HD hnl hbd HD2 HB2
  by_cases hlt : i < n
  ·have hiL : i < L.length := by rw [HL.out]; exact hlt
   have hi0 : (0 : Int) ≤ (i : Int) := by omega
   have hi1 : (i : Int) < (n : Int) := by omega
   have HS : Hid ((L.take (i + 1)).flatMap tx = (L.take i).flatMap tx ++ tx L[i]) := by
    unfold Hid
    rw [List.take_succ_eq_append_getElem hiL, List.flatMap_append]
    simp
   have HLK : Hid (type_of% (HLOOK.out L[i] (List.getElem_mem hiL))) := HLOOK.out L[i] (List.getElem_mem hiL)
   have hdl : (tx L[i]).length ≤ U := HLE.out _ (List.getElem_mem hiL)
   have HCC : Hid (∀ r, r < 2 → wr.cell? ⟨b, f + i * 2 + r, none⟩ = (grpCells L[i])[r]?) := fun r hr => by
    rw [HB.out.cell (p := ⟨b, f + i * 2 + r, none⟩) hbN]
    exact HR.out i hiL r hr
   obtain ⟨d, hd⟩ : ∃ d, d = L[i] := ⟨_, rfl⟩
   rw [← hd] at HS HLK HCC hdl
   clear hd
   obtain ⟨cd, hcd⟩ : ∃ cd, cd = tx d := ⟨_, rfl⟩
   rw [← hcd] at HS HLK hdl
   clear hcd
   obtain ⟨z1, k1⟩ := d
   have e0 : wr.cell? ⟨b, f + i * 2, none⟩ = some (.int .i64 (z1 : Int)) := HCC.out 0 (by omega)
   have e1 : wr.cell? ⟨b, f + i * 2 + 1, none⟩ = some (.int .u8 k1) := HCC.out 1 (by omega)
   have hs0 : (wr.alloc (.cells #[.int .i64 0, .int .u8 0] 185)).heap.size = wr.heap.size + 1 := by simp
   have hbn : b ≠ wr.heap.size := by
    have := HB.out.size
    have h3 := HSZ.out
    omega
   have HNW : Hid (N ≤ wr.heap.size) := by have h3 := HSZ.out; unfold Hid; omega
   have HBA : Hid (Below N w0 (wr.alloc (.cells #[.int .i64 (z1 : Int), .int .u8 k1] 185))) := HB.out.alloc HNW.out _
   have HSW : Hid (N ≤ ((wr.alloc (.cells #[.int .i64 (z1 : Int), .int .u8 k1] 185))).heap.size) := by
    have h4 := HNW.out
    unfold Hid
    simp
    omega
   have HXA : Hid (Below w.heap.size w (wr.alloc (.cells #[.int .i64 (z1 : Int), .int .u8 k1] 185))) := HBX.out.alloc HBX.out.size _
   have HBDA : Hid (BD (wr.alloc (.cells #[.int .i64 (z1 : Int), .int .u8 k1] 185)) w.heap.size w.heap.size l) := HBD.out.under ((Below.refl _ _).alloc (Nat.le_refl _) _)
   have hza : w.heap.size ≤ ((wr.alloc (.cells #[.int .i64 (z1 : Int), .int .u8 k1] 185))).heap.size := HXA.out.size
   clear HBD
   go_wp2_with fail
   refine (HLK.out _ HBA.out HSW.out).mono ?_
   rintro r w3 ⟨tt, rfl, htt, b3⟩
   have hzt := size_of htt
   have hs3 := b3.size
   have HTT : Hid (nums tt = cd) := htt
   have HCW := bwrite_any w.heap.size w.heap.size l tt w3 (HBDA.out.under b3) (by omega) (by omega)
   have HCX : Hid (type_of% HCW) := HCW
   have HB3 : Hid (Below w.heap.size w w3) := HXA.out.trans (b3.mono hza)
   clear HCW htt b3 HBDA HXA HBA HSW HLK HCC e0 e1
   go_wp2_with fail
   refine HCX.out.mono ?_
   rintro r w4 ⟨rfl, hb4, b4⟩
   have HD4 : Hid (∃ l : List UInt8, nums ⟨l.toArray⟩ = uB n ++ (L.take (i + 1)).flatMap tx ∧ BD w4 w.heap.size w.heap.size l) := ⟨_, by rw [nums_list, HNL.out, HTT.out, HS.out, List.append_assoc], hb4⟩
   have HB4 : Hid (Below w.heap.size w w4) := HB3.out.trans (b4.mono (Nat.le_refl _))
   clear hb4 b4 HCX HB3
   go_wp2
   go_roundw
   case rel => exact ⟨i + 1, by go_num, by omega, HD4, HB4⟩
   case measure => simp [intOf]; omega
  ·have HTL : Hid (L.take i = L) := List.take_of_length_le (by rw [HL.out]; omega)
   rw [HTL.out] at HNL
   have HST := bstring_any w.heap.size w.heap.size l wr HBD.out (by omega)
   have HSU : Hid (type_of% HST) := HST
   clear HST HBD HTL
   go_wp2_with fail
   refine HSU.out.mono ?_
   rintro r w3 ⟨rfl, b3⟩
   go_wp2
   go_ret
   exact ⟨_, rfl, HNL.out, HBX.out.trans (b3.mono (Nat.le_refl _))⟩
theorem listText_kin (N : Nat) (w0 w : World) (tx : Int → List Int) (U : Nat) (hU : U ≤ 400000) (L : List Int) (o : Option Addr) (n cap : Nat) (hn : L.length = n) (hcap : n ≤ cap) (hmax : n ≤ 200)
  (hr : L = [] ∨ ∃ b f, o = some ⟨b, f, none⟩ ∧ b < N ∧ ∀ i (h : i < L.length) r, r < 1 → w0.cell? ⟨b, f + i * 1 + r, none⟩ = ([Value.int .u8 L[i]])[r]?)
  (hb : Below N w0 w) (hNw : N ≤ w.heap.size) (hlen : ∀ d ∈ L, (tx d).length ≤ U)
  (HLOOK : Hid (∀ d ∈ L, ∀ w', Below N w0 w' → N ≤ w'.heap.size → Calls Tryz.prog 123 #[.int .u8 d] w' (Txt w' (tx d)))) :
  Calls Tryz.prog 122 #[.slice o n cap, .func (.func 123) #[] #[]] w (Txt w (uB n ++ L.flatMap tx)) := by
 have HBW : Hid (Below N w0 w) := hb
 have HL : Hid (L.length = n) := hn
 have HSZ : Hid (N ≤ w.heap.size) := hNw
 have HLE : Hid (∀ d ∈ L, (tx d).length ≤ U) := hlen
 have hu := uB_len10 n (by omega)
 have HN : Hid (type_of% (numberText_any (n : Int) (by omega) (by omega) (w.alloc (.cells #[.pointer none, .slice none 0 0] 223)))) := numberText_any (n : Int) (by omega) (by omega) (w.alloc (.cells #[.pointer none, .slice none 0 0] 223))
 have HD0 : Hid (BD (w.alloc (.cells #[.pointer none, .slice none 0 0] 223)) w.heap.size w.heap.size []) := BD.new w
 rcases hr with rfl | ⟨b, f, rfl, hbN, hcells⟩
 ·have hn0 : n = 0 := by rw [← hn]; rfl
  subst hn0
  clear hb hn hNw hlen
  go_enter Tryz.func122, Tryz.ntmps122
  go_wp2_with fail
  refine HN.out.mono ?_
  rintro r w1 ⟨t, rfl, ht, b1⟩
  have hz := size_of ht
  have hs1 := b1.size
  rw [World.size_alloc] at hs1
  have HT : Hid (nums t = uB 0) := ht
  have HCW := bwrite_any w.heap.size w.heap.size [] t w1 (HD0.out.under b1) (by simp at hz ⊢; omega) (by omega)
  have HCX : Hid (type_of% HCW) := HCW
  have HB1 : Hid (Below w.heap.size w w1) := ((Below.refl _ _).alloc (Nat.le_refl _) _).trans (b1.mono (by simp))
  clear HCW ht b1 HN HD0
  go_wp2_with fail
  refine HCX.out.mono ?_
  rintro r w2 ⟨rfl, hb2, b2⟩
  have HD2 : Hid (∃ l : List UInt8, nums ⟨l.toArray⟩ = uB 0 ∧ l.length ≤ 10 ∧ BD w2 w.heap.size w.heap.size l) := ⟨_, by rw [nums_list, HT.out]; rfl, Nat.le_trans (Nat.le_of_eq (len_of_size t)) (by rw [hz]; exact hu), hb2⟩
  have HB2 : Hid (Below w.heap.size w w2) := HB1.out.trans (b2.mono (Nat.le_refl _))
  clear hb2 b2 HCX HB1
  go_wp2
  go_loopw [14] (fun iv wr => iv = .int .i64 0 ∧ Hid (∃ l : List UInt8, nums ⟨l.toArray⟩ = uB 0 ∧ l.length ≤ 10 ∧ BD wr w.heap.size w.heap.size l) ∧ Hid (Below w.heap.size w wr)) (fun _ _ => 0)
  case atStart => exact ⟨rfl, HD2, HB2⟩
  case round =>
   obtain ⟨rfl, HD, HB⟩ := hrel
   obtain ⟨l, hnl, hll, hbd⟩ := HD.out
   have HNL : Hid (type_of% hnl) := hnl
   have hlt0 := hbd.lt
   have HST := bstring_any w.heap.size w.heap.size l wr hbd (by omega)
   have HSU : Hid (type_of% HST) := HST
   clear HST hbd hnl
   go_wp2_with fail
   refine HSU.out.mono ?_
   rintro r w3 ⟨rfl, b3⟩
   go_wp2
   go_ret
   exact ⟨_, rfl, by rw [HNL.out]; simp, HB.out.trans (b3.mono (Nat.le_refl _))⟩
 have HR : Hid (type_of% hcells) := hcells
 clear hb hcells hn hNw hlen
 go_enter Tryz.func122, Tryz.ntmps122
 go_wp2_with fail
 refine HN.out.mono ?_
 rintro r w1 ⟨t, rfl, ht, b1⟩
 have hz := size_of ht
 have hs1 := b1.size
 rw [World.size_alloc] at hs1
 rw [Int.toNat_natCast] at hz ht
 have HT : Hid (nums t = uB n) := ht
 have HCW := bwrite_any w.heap.size w.heap.size [] t w1 (HD0.out.under b1) (by simp; omega) (by omega)
 have HCX : Hid (type_of% HCW) := HCW
 have HB1 : Hid (Below w.heap.size w w1) := ((Below.refl _ _).alloc (Nat.le_refl _) _).trans (b1.mono (by simp))
 clear HCW ht b1 HN HD0
 go_wp2_with fail
 refine HCX.out.mono ?_
 rintro r w2 ⟨rfl, hb2, b2⟩
 have HD2 : Hid (∃ l : List UInt8, nums ⟨l.toArray⟩ = uB n ++ (L.take 0).flatMap tx ∧ BD w2 w.heap.size w.heap.size l) := ⟨_, by rw [nums_list, HT.out]; simp; rfl, hb2⟩
 have HB2 : Hid (Below w.heap.size w w2) := HB1.out.trans (b2.mono (Nat.le_refl _))
 clear hb2 b2 HCX HB1
 go_wp2
 go_loopw [14] (fun iv wr => ∃ i : Nat, iv = .int .i64 (i : Int) ∧ i ≤ n ∧ Hid (∃ l : List UInt8, nums ⟨l.toArray⟩ = uB n ++ (L.take i).flatMap tx ∧ BD wr w.heap.size w.heap.size l) ∧ Hid (Below w.heap.size w wr)) (fun iv _ => n - (intOf iv).toNat)
 case atStart => exact ⟨0, rfl, by omega, HD2, HB2⟩
 case round =>
  obtain ⟨i, rfl, hin, HD, HBX⟩ := hrel
  have HB : Hid (Below N w0 wr) := HBW.out.trans (HBX.out.mono HSZ.out)
  obtain ⟨l, hnl, hbd⟩ := HD.out
  have hll : l.length ≤ 10 + i * U := by
   rw [← nums_len', hnl, List.length_append]
   have := flat_le tx U (L.take i) fun d hd => HLE.out d (List.take_subset _ _ hd)
   rw [List.length_take] at this
   have h2 : min i L.length * U ≤ i * U := Nat.mul_le_mul_right _ (Nat.min_le_left _ _)
   omega
  have hiU : i * U ≤ 200 * 400000 := Nat.mul_le_mul (by omega) hU
  have hw1 : w.heap.size < wr.heap.size := hbd.lt
  have HNL : Hid (type_of% hnl) := hnl
  have HBD : Hid (type_of% hbd) := hbd
  clear HD hnl hbd HD2 HB2
  by_cases hlt : i < n
  ·have hiL : i < L.length := by rw [HL.out]; exact hlt
   have hi0 : (0 : Int) ≤ (i : Int) := by omega
   have hi1 : (i : Int) < (n : Int) := by omega
   have HS : Hid ((L.take (i + 1)).flatMap tx = (L.take i).flatMap tx ++ tx L[i]) := by
    unfold Hid
    rw [List.take_succ_eq_append_getElem hiL, List.flatMap_append]
    simp
   have HLK : Hid (type_of% (HLOOK.out L[i] (List.getElem_mem hiL))) := HLOOK.out L[i] (List.getElem_mem hiL)
   have hdl : (tx L[i]).length ≤ U := HLE.out _ (List.getElem_mem hiL)
   have HCC : Hid (∀ r, r < 1 → wr.cell? ⟨b, f + i * 1 + r, none⟩ = ([Value.int .u8 L[i]])[r]?) := fun r hr => by
    rw [HB.out.cell (p := ⟨b, f + i * 1 + r, none⟩) hbN]
    exact HR.out i hiL r hr
   obtain ⟨d, hd⟩ : ∃ d, d = L[i] := ⟨_, rfl⟩
   rw [← hd] at HS HLK HCC hdl
   clear hd
   obtain ⟨cd, hcd⟩ : ∃ cd, cd = tx d := ⟨_, rfl⟩
   rw [← hcd] at HS HLK hdl
   clear hcd
   have e0 : wr.cell? ⟨b, f + i * 1, none⟩ = some (.int .u8 d) := HCC.out 0 (by omega)
   have HD1 : Hid (f + i * 1 = f + i) := by unfold Hid; omega
   rw [HD1.out] at e0
   have HSW : Hid (N ≤ wr.heap.size) := by have h3 := HSZ.out; unfold Hid; omega
   have HBA : Hid (Below N w0 wr) := HB
   have HXA : Hid (Below w.heap.size w wr) := HBX
   have HBDA : Hid (BD wr w.heap.size w.heap.size l) := HBD
   have hza : w.heap.size ≤ wr.heap.size := HXA.out.size
   clear HBD
   go_wp2_with fail
   refine (HLK.out _ HBA.out HSW.out).mono ?_
   rintro r w3 ⟨tt, rfl, htt, b3⟩
   have hzt := size_of htt
   have hs3 := b3.size
   have HTT : Hid (nums tt = cd) := htt
   have HCW := bwrite_any w.heap.size w.heap.size l tt w3 (HBDA.out.under b3) (by omega) (by omega)
   have HCX : Hid (type_of% HCW) := HCW
   have HB3 : Hid (Below w.heap.size w w3) := HXA.out.trans (b3.mono hza)
   clear HCW htt b3 HBDA HXA HBA HSW HLK HCC e0
   go_wp2_with fail
   refine HCX.out.mono ?_
   rintro r w4 ⟨rfl, hb4, b4⟩
   have HD4 : Hid (∃ l : List UInt8, nums ⟨l.toArray⟩ = uB n ++ (L.take (i + 1)).flatMap tx ∧ BD w4 w.heap.size w.heap.size l) := ⟨_, by rw [nums_list, HNL.out, HTT.out, HS.out, List.append_assoc], hb4⟩
   have HB4 : Hid (Below w.heap.size w w4) := HB3.out.trans (b4.mono (Nat.le_refl _))
   clear hb4 b4 HCX HB3
   go_wp2
   go_roundw
   case rel => exact ⟨i + 1, by go_num, by omega, HD4, HB4⟩
   case measure => simp [intOf]; omega
  ·have HTL : Hid (L.take i = L) := List.take_of_length_le (by rw [HL.out]; omega)
   rw [HTL.out] at HNL
   have HST := bstring_any w.heap.size w.heap.size l wr HBD.out (by omega)
   have HSU : Hid (type_of% HST) := HST
   clear HST HBD HTL
   go_wp2_with fail
   refine HSU.out.mono ?_
   rintro r w3 ⟨rfl, b3⟩
   go_wp2
   go_ret
   exact ⟨_, rfl, HNL.out, HBX.out.trans (b3.mono (Nat.le_refl _))⟩
theorem listText_int (N : Nat) (w0 w : World) (tx : Int → List Int) (U : Nat) (hU : U ≤ 400000) (L : List Int) (o : Option Addr) (n cap : Nat) (hn : L.length = n) (hcap : n ≤ cap) (hmax : n ≤ 200)
  (hr : L = [] ∨ ∃ b f, o = some ⟨b, f, none⟩ ∧ b < N ∧ ∀ i (h : i < L.length) r, r < 1 → w0.cell? ⟨b, f + i * 1 + r, none⟩ = ([Value.int .i64 L[i]])[r]?)
  (hb : Below N w0 w) (hNw : N ≤ w.heap.size) (hlen : ∀ d ∈ L, (tx d).length ≤ U)
  (HLOOK : Hid (∀ d ∈ L, ∀ w', Below N w0 w' → N ≤ w'.heap.size → Calls Tryz.prog 126 #[.int .i64 d] w' (Txt w' (tx d)))) :
  Calls Tryz.prog 134 #[.slice o n cap, .func (.func 126) #[] #[]] w (Txt w (uB n ++ L.flatMap tx)) := by
 have HBW : Hid (Below N w0 w) := hb
 have HL : Hid (L.length = n) := hn
 have HSZ : Hid (N ≤ w.heap.size) := hNw
 have HLE : Hid (∀ d ∈ L, (tx d).length ≤ U) := hlen
 have hu := uB_len10 n (by omega)
 have HN : Hid (type_of% (numberText_any (n : Int) (by omega) (by omega) (w.alloc (.cells #[.pointer none, .slice none 0 0] 223)))) := numberText_any (n : Int) (by omega) (by omega) (w.alloc (.cells #[.pointer none, .slice none 0 0] 223))
 have HD0 : Hid (BD (w.alloc (.cells #[.pointer none, .slice none 0 0] 223)) w.heap.size w.heap.size []) := BD.new w
 rcases hr with rfl | ⟨b, f, rfl, hbN, hcells⟩
 ·have hn0 : n = 0 := by rw [← hn]; rfl
  subst hn0
  clear hb hn hNw hlen
  go_enter Tryz.func134, Tryz.ntmps134
  go_wp2_with fail
  refine HN.out.mono ?_
  rintro r w1 ⟨t, rfl, ht, b1⟩
  have hz := size_of ht
  have hs1 := b1.size
  rw [World.size_alloc] at hs1
  have HT : Hid (nums t = uB 0) := ht
  have HCW := bwrite_any w.heap.size w.heap.size [] t w1 (HD0.out.under b1) (by simp at hz ⊢; omega) (by omega)
  have HCX : Hid (type_of% HCW) := HCW
  have HB1 : Hid (Below w.heap.size w w1) := ((Below.refl _ _).alloc (Nat.le_refl _) _).trans (b1.mono (by simp))
  clear HCW ht b1 HN HD0
  go_wp2_with fail
  refine HCX.out.mono ?_
  rintro r w2 ⟨rfl, hb2, b2⟩
  have HD2 : Hid (∃ l : List UInt8, nums ⟨l.toArray⟩ = uB 0 ∧ l.length ≤ 10 ∧ BD w2 w.heap.size w.heap.size l) := ⟨_, by rw [nums_list, HT.out]; rfl, Nat.le_trans (Nat.le_of_eq (len_of_size t)) (by rw [hz]; exact hu), hb2⟩
  have HB2 : Hid (Below w.heap.size w w2) := HB1.out.trans (b2.mono (Nat.le_refl _))
  clear hb2 b2 HCX HB1
  go_wp2
  go_loopw [14] (fun iv wr => iv = .int .i64 0 ∧ Hid (∃ l : List UInt8, nums ⟨l.toArray⟩ = uB 0 ∧ l.length ≤ 10 ∧ BD wr w.heap.size w.heap.size l) ∧ Hid (Below w.heap.size w wr)) (fun _ _ => 0)
  case atStart => exact ⟨rfl, HD2, HB2⟩
  case round =>
   obtain ⟨rfl, HD, HB⟩ := hrel
   obtain ⟨l, hnl, hll, hbd⟩ := HD.out
   have HNL : Hid (type_of% hnl) := hnl
   have hlt0 := hbd.lt
   have HST := bstring_any w.heap.size w.heap.size l wr hbd (by omega)
   have HSU : Hid (type_of% HST) := HST
   clear HST hbd hnl
   go_wp2_with fail
   refine HSU.out.mono ?_
   rintro r w3 ⟨rfl, b3⟩
   go_wp2
   go_ret
   exact ⟨_, rfl, by rw [HNL.out]; simp, HB.out.trans (b3.mono (Nat.le_refl _))⟩
 have HR : Hid (type_of% hcells) := hcells
 clear hb hcells hn hNw hlen
 go_enter Tryz.func134, Tryz.ntmps134
 go_wp2_with fail
 refine HN.out.mono ?_
 rintro r w1 ⟨t, rfl, ht, b1⟩
 have hz := size_of ht
 have hs1 := b1.size
 rw [World.size_alloc] at hs1
 rw [Int.toNat_natCast] at hz ht
 have HT : Hid (nums t = uB n) := ht
 have HCW := bwrite_any w.heap.size w.heap.size [] t w1 (HD0.out.under b1) (by simp; omega) (by omega)
 have HCX : Hid (type_of% HCW) := HCW
 have HB1 : Hid (Below w.heap.size w w1) := ((Below.refl _ _).alloc (Nat.le_refl _) _).trans (b1.mono (by simp))
 clear HCW ht b1 HN HD0
 go_wp2_with fail
 refine HCX.out.mono ?_
 rintro r w2 ⟨rfl, hb2, b2⟩
 have HD2 : Hid (∃ l : List UInt8, nums ⟨l.toArray⟩ = uB n ++ (L.take 0).flatMap tx ∧ BD w2 w.heap.size w.heap.size l) := ⟨_, by rw [nums_list, HT.out]; simp; rfl, hb2⟩
 have HB2 : Hid (Below w.heap.size w w2) := HB1.out.trans (b2.mono (Nat.le_refl _))
 clear hb2 b2 HCX HB1
 go_wp2
 go_loopw [14] (fun iv wr => ∃ i : Nat, iv = .int .i64 (i : Int) ∧ i ≤ n ∧ Hid (∃ l : List UInt8, nums ⟨l.toArray⟩ = uB n ++ (L.take i).flatMap tx ∧ BD wr w.heap.size w.heap.size l) ∧ Hid (Below w.heap.size w wr)) (fun iv _ => n - (intOf iv).toNat)
 case atStart => exact ⟨0, rfl, by omega, HD2, HB2⟩
 case round =>
  obtain ⟨i, rfl, hin, HD, HBX⟩ := hrel
  have HB : Hid (Below N w0 wr) := HBW.out.trans (HBX.out.mono HSZ.out)
  obtain ⟨l, hnl, hbd⟩ := HD.out
  have hll : l.length ≤ 10 + i * U := by
   rw [← nums_len', hnl, List.length_append]
   have := flat_le tx U (L.take i) fun d hd => HLE.out d (List.take_subset _ _ hd)
   rw [List.length_take] at this
   have h2 : min i L.length * U ≤ i * U := Nat.mul_le_mul_right _ (Nat.min_le_left _ _)
   omega
  have hiU : i * U ≤ 200 * 400000 := Nat.mul_le_mul (by omega) hU
  have hw1 : w.heap.size < wr.heap.size := hbd.lt
  have HNL : Hid (type_of% hnl) := hnl
  have HBD : Hid (type_of% hbd) := hbd
  clear HD hnl hbd HD2 HB2
  by_cases hlt : i < n
  ·have hiL : i < L.length := by rw [HL.out]; exact hlt
   have hi0 : (0 : Int) ≤ (i : Int) := by omega
   have hi1 : (i : Int) < (n : Int) := by omega
   have HS : Hid ((L.take (i + 1)).flatMap tx = (L.take i).flatMap tx ++ tx L[i]) := by
    unfold Hid
    rw [List.take_succ_eq_append_getElem hiL, List.flatMap_append]
    simp
   have HLK : Hid (type_of% (HLOOK.out L[i] (List.getElem_mem hiL))) := HLOOK.out L[i] (List.getElem_mem hiL)
   have hdl : (tx L[i]).length ≤ U := HLE.out _ (List.getElem_mem hiL)
   have HCC : Hid (∀ r, r < 1 → wr.cell? ⟨b, f + i * 1 + r, none⟩ = ([Value.int .i64 L[i]])[r]?) := fun r hr => by
    rw [HB.out.cell (p := ⟨b, f + i * 1 + r, none⟩) hbN]
    exact HR.out i hiL r hr
   obtain ⟨d, hd⟩ : ∃ d, d = L[i] := ⟨_, rfl⟩
   rw [← hd] at HS HLK HCC hdl
   clear hd
   obtain ⟨cd, hcd⟩ : ∃ cd, cd = tx d := ⟨_, rfl⟩
   rw [← hcd] at HS HLK hdl
   clear hcd
   have e0 : wr.cell? ⟨b, f + i * 1, none⟩ = some (.int .i64 d) := HCC.out 0 (by omega)
   have HD1 : Hid (f + i * 1 = f + i) := by unfold Hid; omega
   rw [HD1.out] at e0
   have HSW : Hid (N ≤ wr.heap.size) := by have h3 := HSZ.out; unfold Hid; omega
   have HBA : Hid (Below N w0 wr) := HB
   have HXA : Hid (Below w.heap.size w wr) := HBX
   have HBDA : Hid (BD wr w.heap.size w.heap.size l) := HBD
   have hza : w.heap.size ≤ wr.heap.size := HXA.out.size
   clear HBD
   go_wp2_with fail
   refine (HLK.out _ HBA.out HSW.out).mono ?_
   rintro r w3 ⟨tt, rfl, htt, b3⟩
   have hzt := size_of htt
   have hs3 := b3.size
   have HTT : Hid (nums tt = cd) := htt
   have HCW := bwrite_any w.heap.size w.heap.size l tt w3 (HBDA.out.under b3) (by omega) (by omega)
   have HCX : Hid (type_of% HCW) := HCW
   have HB3 : Hid (Below w.heap.size w w3) := HXA.out.trans (b3.mono hza)
   clear HCW htt b3 HBDA HXA HBA HSW HLK HCC e0
   go_wp2_with fail
   refine HCX.out.mono ?_
   rintro r w4 ⟨rfl, hb4, b4⟩
   have HD4 : Hid (∃ l : List UInt8, nums ⟨l.toArray⟩ = uB n ++ (L.take (i + 1)).flatMap tx ∧ BD w4 w.heap.size w.heap.size l) := ⟨_, by rw [nums_list, HNL.out, HTT.out, HS.out, List.append_assoc], hb4⟩
   have HB4 : Hid (Below w.heap.size w w4) := HB3.out.trans (b4.mono (Nat.le_refl _))
   clear hb4 b4 HCX HB3
   go_wp2
   go_roundw
   case rel => exact ⟨i + 1, by go_num, by omega, HD4, HB4⟩
   case measure => simp [intOf]; omega
  ·have HTL : Hid (L.take i = L) := List.take_of_length_le (by rw [HL.out]; omega)
   rw [HTL.out] at HNL
   have HST := bstring_any w.heap.size w.heap.size l wr HBD.out (by omega)
   have HSU : Hid (type_of% HST) := HST
   clear HST HBD HTL
   go_wp2_with fail
   refine HSU.out.mono ?_
   rintro r w3 ⟨rfl, b3⟩
   go_wp2
   go_ret
   exact ⟨_, rfl, HNL.out, HBX.out.trans (b3.mono (Nat.le_refl _))⟩
end Go.Proofs.YtakpkdckajjooaaGreatDoor
namespace Go.Proofs.YtakpkdckajjooaaGreatDoor
set_option linter.unusedVariables false
open Go.RowKit
theorem bch {N : Nat} {w w' : World} (h : Below N w w' := by repeat' (first | with_reducible exact Below.refl _ _ | with_reducible exact Hid.out (by assumption) | with_reducible refine Below.drew ?_ | with_reducible refine Below.alloc ?_ ?_ _ | (simp only [World.size_alloc, World.size_drew]; omega) | omega)) : Below N w w' := h
theorem bcl {a b : Nat} (h : a ≤ b := by first | (simp only [World.size_alloc, World.size_drew]; omega) | omega) : a ≤ b := h
theorem agg2 {w w' : World} {c0 c1 : Value} {t : TypeId} (h : Below (w.heap.size + 1) (w.alloc (.cells #[c0, c1] t)) w') : w'.cell? ⟨w.heap.size, 0, none⟩ = some c0 ∧ w'.cell? ⟨w.heap.size, 1, none⟩ = some c1 := by
 have := (h.block w.heap.size (Nat.lt_succ_self _)).trans (heap_alloc_new w _)
 simp [World.cell?, this]
theorem agg3 {w w' : World} {c0 c1 c2 : Value} {t : TypeId} (h : Below (w.heap.size + 1) (w.alloc (.cells #[c0, c1, c2] t)) w') : w'.cell? ⟨w.heap.size, 0, none⟩ = some c0 ∧ w'.cell? ⟨w.heap.size, 1, none⟩ = some c1 ∧ w'.cell? ⟨w.heap.size, 2, none⟩ = some c2 := by
 have := (h.block w.heap.size (Nat.lt_succ_self _)).trans (heap_alloc_new w _)
 simp [World.cell?, this]
theorem BB.one' (w : World) (n : Int) (X : Nat) (h : X = w.heap.size) : BB (w.alloc (.cells #[.int .u8 n] 5)) X [n] := by subst h; exact BB.one w n
theorem BB.two' (w : World) (n k : Int) (X : Nat) (h : X = w.heap.size) : BB (w.alloc (.cells #[.int .u8 n, .int .u8 k] 5)) X [n, k] := by subst h; exact BB.two w n k
theorem BB.alloc {w : World} {X : Nat} {ns : List Int} (h : BB w X ns) (c : Obj) : BB (w.alloc c) X ns := h.under ((Below.refl _ _).alloc (Nat.le_refl _) _)
theorem BB.drew {w : World} {X : Nat} {ns : List Int} (h : BB w X ns) : BB w.drew X ns := h
theorem bbx {w : World} {X : Nat} {ns : List Int} (h : BB w X ns := by repeat' (first | with_reducible refine BB.one' _ _ _ ?_ | with_reducible refine BB.two' _ _ _ _ ?_ | with_reducible refine BB.drew ?_ | with_reducible refine BB.alloc ?_ _ | with_reducible refine BB.under ?_ (Hid.out (by assumption)) | (simp only [World.size_alloc, World.size_drew]; done))) : BB w X ns := h
theorem s_txt (a : Int) (h0 : -9223372036854775808 ≤ a) (h1 : a ≤ 9223372036854775807) (w : World) : Calls Tryz.prog 130 #[.int .i64 a] w (Txt w (sB a)) := by
 refine (s_any a h0 h1 w).mono ?_
 rintro r w' ⟨rfl, b⟩
 exact ⟨_, rfl, nums_str (sB_byte a), b⟩
theorem tName_len (s : List Int) (m : Nat) (h : s.length ≤ m) (hm : m ≤ 1000) : (tName s).length ≤ 10 + m := by
 unfold tName
 have h1 := uB_len10 s.length (by omega)
 rw [List.length_append]
 omega
theorem tPlace_len (a : Int) (h0 : -9223372036854775808 ≤ a) (h1 : a ≤ 9223372036854775807) : (tPlace a).length ≤ 13 := by
 have := sB_len64 a h0 h1
 unfold tPlace
 simp
 omega
theorem tNs_len (l : List Int) (m : Nat) (h : l.length ≤ m) (hm : m ≤ 1000) (hk : ∀ k ∈ l, 0 ≤ k ∧ k ≤ 9223372036854775807) : (tNs l).length ≤ 10 + m * 10 := by
 unfold tNs tList
 have h1 := uB_len10 l.length (by omega)
 have h2 := flat_le (fun n : Int => uB n.toNat) 10 l (fun k h => uB_len10 _ (by have := hk k h; omega))
 rw [List.length_append]
 omega
theorem bytes_txt (w : World) (X n : Nat) (ns : List Int) (h : BB w X ns) (hn : ns.length = n) (hb : Bts ns) :
  Calls Tryz.prog 121 #[.slice (some ⟨X, 0, none⟩) n n] w (Txt w ns) := by
 refine (bytes_any w X n ns h hn).mono ?_
 rintro r w' ⟨rfl, rfl⟩
 exact ⟨_, rfl, nums_str hb, Below.refl _ _⟩
theorem constOf_txt (k : Int) (w : World) : Calls Tryz.prog 129 #[.int .u8 k] w fun r w' => r = .returned (.int .u8 (cst k)) ∧ Below w.heap.size w w' := by
 refine (constOf_any k w).mono ?_
 rintro r w' ⟨rfl, rfl⟩
 exact ⟨rfl, Below.refl _ _⟩
theorem box_size {w w' : World} {c : Obj} (b : Below (w.heap.size + 1) (w.alloc c) w') : w.heap.size + 1 ≤ w'.heap.size := by
 have := b.size
 rw [World.size_alloc] at this
 exact this
theorem below_box {N : Nat} {w0 w w' : World} {c : Obj} (hb : Below N w0 w) (hN : N ≤ w.heap.size) (b : Below (w.heap.size + 1) (w.alloc c) w') : Below N w0 w' ∧ N ≤ w'.heap.size := by
 have h1 : Below N w0 (w.alloc c) := hb.alloc hN _
 have h2 := b.size
 rw [World.size_alloc] at h2
 exact ⟨h1.trans (b.mono (by omega)), by omega⟩
theorem chkHost : chkName (nums ⟨#[104, 111, 115, 116]⟩) = 0 := by
 have : okName (nums ⟨#[104, 111, 115, 116]⟩) = true := okHost.2.2
 unfold chkName okE
 rw [this]
 rfl
theorem tKs_len (l : List Int) (m : Nat) (h : l.length ≤ m) (hm : m ≤ 1000) : (tKs l).length ≤ 10 + m := by
 unfold tKs tList
 have h1 := uB_len10 l.length (by omega)
 have h2 := flat_le (fun k : Int => [k]) 1 l (fun _ _ => Nat.le_refl _)
 rw [List.length_append]
 omega
theorem sigText_any (w0 w : World) (i r : NumD) (hb : Below w0.heap.size w0 w) (hi : i.ok .u8 w0) (hr : r.ok .u8 w0) (hin : i.xs.length ≤ 4) (hrn : r.xs.length ≤ 1) (hik : ∀ k ∈ i.xs, 0 ≤ k ∧ k < 256) (hrk : ∀ k ∈ r.xs, 0 ≤ k ∧ k < 256) :
  Calls Tryz.prog 72 #[.agg #[.slice i.o i.n i.cap, .slice r.o r.n r.cap]] w (Txt w (tSig ⟨i.xs, r.xs⟩)) := by
 have hNw : w0.heap.size ≤ w.heap.size := hb.size
 have HC2 : Hid (∀ w', Below (w.heap.size + 1) (w.alloc (.cells #[.slice i.o i.n i.cap, .slice r.o r.n r.cap] 50)) w' → Calls Tryz.prog 122 #[.slice i.o i.n i.cap, .func (.func 123) #[] #[]] w' (Txt w' (tKs i.xs))) := fun w' b => (listText_kin w0.heap.size w0 w' (fun k => [k]) 1 (by omega) i.xs i.o i.n i.cap hi.len hi.le (by have := hi.len; have := hin; omega) (hi.at1 (Nat.le_refl _)) (below_box hb hNw b).1 (below_box hb hNw b).2 (fun _ _ => Nat.le_refl _) (fun k hk w'' _ _ => kindText_any k (hik k hk).1 (hik k hk).2 w'')).mono fun r w'' h => h.eq (by rw [← hi.len]; rfl)
 have HC3 : Hid (∀ w', Below (w.heap.size + 1) (w.alloc (.cells #[.slice i.o i.n i.cap, .slice r.o r.n r.cap] 50)) w' → Calls Tryz.prog 122 #[.slice r.o r.n r.cap, .func (.func 123) #[] #[]] w' (Txt w' (tKs r.xs))) := fun w' b => (listText_kin w0.heap.size w0 w' (fun k => [k]) 1 (by omega) r.xs r.o r.n r.cap hr.len hr.le (by have := hr.len; have := hrn; omega) (hr.at1 (Nat.le_refl _)) (below_box hb hNw b).1 (below_box hb hNw b).2 (fun _ _ => Nat.le_refl _) (fun k hk w'' _ _ => kindText_any k (hrk k hk).1 (hrk k hk).2 w'')).mono fun r w'' h => h.eq (by rw [← hr.len]; rfl)
 have HL2 : Hid ((tKs i.xs).length ≤ 14) := tKs_len _ 4 hin (by omega)
 have HL3 : Hid ((tKs r.xs).length ≤ 11) := tKs_len _ 1 hrn (by omega)
 have HBT1 : Hid (Bts [96]) := fun b hb => by simp at hb; omega
 clear hb hi hr hin hrn hik hrk hNw
 go_enter Tryz.func72, Tryz.ntmps72
 go_wp2
 go_region_held3 (fun w' => w'.cell? ⟨w.heap.size, 0, none⟩ = some (.slice i.o i.n i.cap) ∧ w'.cell? ⟨w.heap.size, 1, none⟩ = some (.slice r.o r.n r.cap))
  (first | exact agg2 bch | go_keep)
  (first
   | (go_at_call 121; (fail_if_success (have := HT1)); refine (bytes_txt _ _ 1 [96] ?_ rfl HBT1.out).mono ?_; exact bbx; rintro r w1 ⟨t1, rfl, ht1, b1⟩; have hz1 : t1.size ≤ 1 := Nat.le_of_eq (size_of ht1); have HT1 : Hid (type_of% ht1) := ht1; have HB1 : Hid (type_of% b1) := b1; have HA1 : Hid (Below (w.heap.size + 1) (w.alloc (.cells #[.slice i.o i.n i.cap, .slice r.o r.n r.cap] 50)) w1) := (by (refine Below.trans ?_ (b1.mono ?_) <;> first | exact bch | exact bcl)); have hs1 : w.heap.size + 1 ≤ w1.heap.size := box_size HA1.out; clear ht1 b1)
   | (go_at_call 122; (fail_if_success (have := HT2)); refine (HC2.out _ ?_).mono ?_; exact bch; rintro r w2 ⟨t2, rfl, ht2, b2⟩; have hz2 : t2.size ≤ 14 := Nat.le_trans (Nat.le_of_eq (size_of ht2)) HL2.out; have HT2 : Hid (type_of% ht2) := ht2; have HB2 : Hid (type_of% b2) := b2; have HA2 : Hid (Below (w.heap.size + 1) (w.alloc (.cells #[.slice i.o i.n i.cap, .slice r.o r.n r.cap] 50)) w2) := (by (refine Below.trans ?_ (b2.mono ?_) <;> first | exact bch | exact bcl)); have hs2 : w.heap.size + 1 ≤ w2.heap.size := box_size HA2.out; have hq2 : ¬ 9223372036854775807 < t1.size + t2.size := (by omega); clear ht2 b2)
   | (go_at_call 122; (fail_if_success (have := HT3)); refine (HC3.out _ ?_).mono ?_; exact bch; rintro r w3 ⟨t3, rfl, ht3, b3⟩; have hz3 : t3.size ≤ 11 := Nat.le_trans (Nat.le_of_eq (size_of ht3)) HL3.out; have HT3 : Hid (type_of% ht3) := ht3; have HB3 : Hid (type_of% b3) := b3; have HA3 : Hid (Below (w.heap.size + 1) (w.alloc (.cells #[.slice i.o i.n i.cap, .slice r.o r.n r.cap] 50)) w3) := (by (refine Below.trans ?_ (b3.mono ?_) <;> first | exact bch | exact bcl)); have hs3 : w.heap.size + 1 ≤ w3.heap.size := box_size HA3.out; have hq3 : ¬ 9223372036854775807 < t1.size + t2.size + t3.size := (by omega); clear ht3 b3))
 all_goals
  go_wp2
  go_ret
  refine ⟨_, rfl, ?_, (Below.trans ((Below.refl _ _).alloc (Nat.le_refl _) _) (HA3.out.mono (Nat.le_succ _)))⟩
  simp only [nums_append]
  rw [HT1.out, HT2.out, HT3.out]
  simp [tSig]
theorem exportText_any (w0 w : World) (s : ByteArray) (n : Int) (hb : Below w0.heap.size w0 w) (hA : Amb w0) (hc : chkName (nums s) = 0) (hl : s.size ≤ 16) (h0 : 0 ≤ n) (h1 : n ≤ 4294967295) :
  Calls Tryz.prog 82 #[.agg #[.string s, .int .i64 n]] w (Txt w (tExp ⟨nums s, n⟩)) := by
 have hNw : w0.heap.size ≤ w.heap.size := hb.size
 have HC1 : Hid (∀ w', Below (w.heap.size + 1) (w.alloc (.cells #[.string s, .int .i64 n] 65)) w' → Calls Tryz.prog 125 #[.string s] w' (Txt w' (tName (nums s)))) := fun w' b => nameText_any s w' (hA.below (below_box hb hNw b).1) hc
 have HC3 : Hid (∀ w', Below (w.heap.size + 1) (w.alloc (.cells #[.string s, .int .i64 n] 65)) w' → Calls Tryz.prog 126 #[.int .i64 n] w' (Txt w' (uB n.toNat))) := fun w' _ => numberText_any n h0 (by omega) w'
 have HL1 : Hid ((tName (nums s)).length ≤ 26) := tName_len _ 16 (by rw [nums_length]; exact hl) (by omega)
 have HL3 : Hid ((uB n.toNat).length ≤ 10) := uB_len10 _ (by omega)
 have HBT2 : Hid (Bts [0]) := fun b hb => by simp at hb; omega
 clear hb hA hc hl h0 h1 hNw
 go_enter Tryz.func82, Tryz.ntmps82
 go_wp2
 go_region_held3 (fun w' => w'.cell? ⟨w.heap.size, 0, none⟩ = some (.string s) ∧ w'.cell? ⟨w.heap.size, 1, none⟩ = some (.int .i64 n))
  (first | exact agg2 bch | go_keep)
  (first
   | (go_at_call 125; (fail_if_success (have := HT1)); refine (HC1.out _ ?_).mono ?_; exact bch; rintro r w1 ⟨t1, rfl, ht1, b1⟩; have hz1 : t1.size ≤ 26 := Nat.le_trans (Nat.le_of_eq (size_of ht1)) HL1.out; have HT1 : Hid (type_of% ht1) := ht1; have HB1 : Hid (type_of% b1) := b1; have HA1 : Hid (Below (w.heap.size + 1) (w.alloc (.cells #[.string s, .int .i64 n] 65)) w1) := (by (refine Below.trans ?_ (b1.mono ?_) <;> first | exact bch | exact bcl)); have hs1 : w.heap.size + 1 ≤ w1.heap.size := box_size HA1.out; clear ht1 b1)
   | (go_at_call 121; (fail_if_success (have := HT2)); refine (bytes_txt _ _ 1 [0] ?_ rfl HBT2.out).mono ?_; exact bbx; rintro r w2 ⟨t2, rfl, ht2, b2⟩; have hz2 : t2.size ≤ 1 := Nat.le_of_eq (size_of ht2); have HT2 : Hid (type_of% ht2) := ht2; have HB2 : Hid (type_of% b2) := b2; have HA2 : Hid (Below (w.heap.size + 1) (w.alloc (.cells #[.string s, .int .i64 n] 65)) w2) := (by (refine Below.trans ?_ (b2.mono ?_) <;> first | exact bch | exact bcl)); have hs2 : w.heap.size + 1 ≤ w2.heap.size := box_size HA2.out; have hq2 : ¬ 9223372036854775807 < t1.size + t2.size := (by omega); clear ht2 b2)
   | (go_at_call 126; (fail_if_success (have := HT3)); refine (HC3.out _ ?_).mono ?_; exact bch; rintro r w3 ⟨t3, rfl, ht3, b3⟩; have hz3 : t3.size ≤ 10 := Nat.le_trans (Nat.le_of_eq (size_of ht3)) HL3.out; have HT3 : Hid (type_of% ht3) := ht3; have HB3 : Hid (type_of% b3) := b3; have HA3 : Hid (Below (w.heap.size + 1) (w.alloc (.cells #[.string s, .int .i64 n] 65)) w3) := (by (refine Below.trans ?_ (b3.mono ?_) <;> first | exact bch | exact bcl)); have hs3 : w.heap.size + 1 ≤ w3.heap.size := box_size HA3.out; have hq3 : ¬ 9223372036854775807 < t1.size + t2.size + t3.size := (by omega); clear ht3 b3))
 all_goals
  go_wp2
  go_ret
  refine ⟨_, rfl, ?_, (Below.trans ((Below.refl _ _).alloc (Nat.le_refl _) _) (HA3.out.mono (Nat.le_succ _)))⟩
  simp only [nums_append]
  rw [HT1.out, HT2.out, HT3.out]
  simp [tExp]
theorem importText_any (w0 w : World) (s : ByteArray) (n : Int) (hb : Below w0.heap.size w0 w) (hA : Amb w0) (hc : chkName (nums s) = 0) (hl : s.size ≤ 16) (h0 : 0 ≤ n) (h1 : n ≤ 4294967295) :
  Calls Tryz.prog 74 #[.agg #[.string s, .int .i64 n]] w (Txt w (tImp ⟨nums s, n⟩)) := by
 have hNw : w0.heap.size ≤ w.heap.size := hb.size
 have HC1 : Hid (∀ w', Below (w.heap.size + 1) (w.alloc (.cells #[.string s, .int .i64 n] 53)) w' → Calls Tryz.prog 125 #[.string ⟨#[104, 111, 115, 116]⟩] w' (Txt w' (tName host))) := fun w' b => nameText_any ⟨#[104, 111, 115, 116]⟩ w' (hA.below (below_box hb hNw b).1) chkHost
 have HL1 : Hid ((tName host).length ≤ 14) := tName_len _ 4 (by decide) (by omega)
 have HC2 : Hid (∀ w', Below (w.heap.size + 1) (w.alloc (.cells #[.string s, .int .i64 n] 53)) w' → Calls Tryz.prog 125 #[.string s] w' (Txt w' (tName (nums s)))) := fun w' b => nameText_any s w' (hA.below (below_box hb hNw b).1) hc
 have HC4 : Hid (∀ w', Below (w.heap.size + 1) (w.alloc (.cells #[.string s, .int .i64 n] 53)) w' → Calls Tryz.prog 126 #[.int .i64 n] w' (Txt w' (uB n.toNat))) := fun w' _ => numberText_any n h0 (by omega) w'
 have HL2 : Hid ((tName (nums s)).length ≤ 26) := tName_len _ 16 (by rw [nums_length]; exact hl) (by omega)
 have HL4 : Hid ((uB n.toNat).length ≤ 10) := uB_len10 _ (by omega)
 have HBT3 : Hid (Bts [0]) := fun b hb => by simp at hb; omega
 clear hb hA hc hl h0 h1 hNw
 go_enter Tryz.func74, Tryz.ntmps74
 go_wp2
 go_region_held3 (fun w' => w'.cell? ⟨w.heap.size, 0, none⟩ = some (.string s) ∧ w'.cell? ⟨w.heap.size, 1, none⟩ = some (.int .i64 n))
  (first | exact agg2 bch | go_keep)
  (first
   | (go_at_call 125; (fail_if_success (have := HT1)); refine (HC1.out _ ?_).mono ?_; exact bch; rintro r w1 ⟨t1, rfl, ht1, b1⟩; have hz1 : t1.size ≤ 14 := Nat.le_trans (Nat.le_of_eq (size_of ht1)) HL1.out; have HT1 : Hid (type_of% ht1) := ht1; have HB1 : Hid (type_of% b1) := b1; have HA1 : Hid (Below (w.heap.size + 1) (w.alloc (.cells #[.string s, .int .i64 n] 53)) w1) := (by (refine Below.trans ?_ (b1.mono ?_) <;> first | exact bch | exact bcl)); have hs1 : w.heap.size + 1 ≤ w1.heap.size := box_size HA1.out; clear ht1 b1)
   | (go_at_call 125; (fail_if_success (have := HT2)); refine (HC2.out _ ?_).mono ?_; exact bch; rintro r w2 ⟨t2, rfl, ht2, b2⟩; have hz2 : t2.size ≤ 26 := Nat.le_trans (Nat.le_of_eq (size_of ht2)) HL2.out; have HT2 : Hid (type_of% ht2) := ht2; have HB2 : Hid (type_of% b2) := b2; have HA2 : Hid (Below (w.heap.size + 1) (w.alloc (.cells #[.string s, .int .i64 n] 53)) w2) := (by (refine Below.trans ?_ (b2.mono ?_) <;> first | exact bch | exact bcl)); have hs2 : w.heap.size + 1 ≤ w2.heap.size := box_size HA2.out; have hq2 : ¬ 9223372036854775807 < t1.size + t2.size := (by omega); clear ht2 b2)
   | (go_at_call 121; (fail_if_success (have := HT3)); refine (bytes_txt _ _ 1 [0] ?_ rfl HBT3.out).mono ?_; exact bbx; rintro r w3 ⟨t3, rfl, ht3, b3⟩; have hz3 : t3.size ≤ 1 := Nat.le_of_eq (size_of ht3); have HT3 : Hid (type_of% ht3) := ht3; have HB3 : Hid (type_of% b3) := b3; have HA3 : Hid (Below (w.heap.size + 1) (w.alloc (.cells #[.string s, .int .i64 n] 53)) w3) := (by (refine Below.trans ?_ (b3.mono ?_) <;> first | exact bch | exact bcl)); have hs3 : w.heap.size + 1 ≤ w3.heap.size := box_size HA3.out; have hq3 : ¬ 9223372036854775807 < t1.size + t2.size + t3.size := (by omega); clear ht3 b3)
   | (go_at_call 126; (fail_if_success (have := HT4)); refine (HC4.out _ ?_).mono ?_; exact bch; rintro r w4 ⟨t4, rfl, ht4, b4⟩; have hz4 : t4.size ≤ 10 := Nat.le_trans (Nat.le_of_eq (size_of ht4)) HL4.out; have HT4 : Hid (type_of% ht4) := ht4; have HB4 : Hid (type_of% b4) := b4; have HA4 : Hid (Below (w.heap.size + 1) (w.alloc (.cells #[.string s, .int .i64 n] 53)) w4) := (by (refine Below.trans ?_ (b4.mono ?_) <;> first | exact bch | exact bcl)); have hs4 : w.heap.size + 1 ≤ w4.heap.size := box_size HA4.out; have hq4 : ¬ 9223372036854775807 < t1.size + t2.size + t3.size + t4.size := (by omega); clear ht4 b4))
 all_goals
  go_wp2
  go_ret
  refine ⟨_, rfl, ?_, (Below.trans ((Below.refl _ _).alloc (Nat.le_refl _) _) (HA4.out.mono (Nat.le_succ _)))⟩
  simp only [nums_append]
  rw [HT1.out, HT2.out, HT3.out, HT4.out]
  simp [tImp, tExp]
theorem globalText_0 (w : World) (k s : Int) (hk : 0 ≤ k ∧ k < 256) (h0 : -9223372036854775808 ≤ s) (h1 : s ≤ 9223372036854775807) :
  Calls Tryz.prog 80 #[.agg #[.int .u8 k, .bool false, .int .i64 s]] w (Txt w (tGlo ⟨k, false, s⟩)) := by
 have HC1 : Hid (∀ w', Below (w.heap.size + 1) (w.alloc (.cells #[.int .u8 k, .bool false, .int .i64 s] 63)) w' → Calls Tryz.prog 123 #[.int .u8 k] w' (Txt w' [k])) := fun w' _ => kindText_any k hk.1 hk.2 w'
 have HC4 : Hid (∀ w', Below (w.heap.size + 1) (w.alloc (.cells #[.int .u8 k, .bool false, .int .i64 s] 63)) w' → Calls Tryz.prog 130 #[.int .i64 s] w' (Txt w' (sB s))) := fun w' _ => s_txt s h0 h1 w'
 have HL1 : Hid ([k].length ≤ 1) := Nat.le_refl _
 have HL4 : Hid ((sB s).length ≤ 10) := sB_len64 s h0 h1
 have HBT3 : Hid (Bts [0, cst k]) := fun b hb => by
  have : cst k = 65 ∨ cst k = 66 := by unfold cst; split <;> simp
  simp at hb
  omega
 have HBT5 : Hid (Bts [11]) := fun b hb => by simp at hb; omega
 clear hk h0 h1
 go_enter Tryz.func80, Tryz.ntmps80
 go_wp2
 go_region_held3 (fun w' => w'.cell? ⟨w.heap.size, 0, none⟩ = some (.int .u8 k) ∧ w'.cell? ⟨w.heap.size, 1, none⟩ = some (.bool false) ∧ w'.cell? ⟨w.heap.size, 2, none⟩ = some (.int .i64 s))
  (first | exact agg3 bch | go_keep)
  (first
   | (go_at_call 123; (fail_if_success (have := HT1)); refine (HC1.out _ ?_).mono ?_; exact bch; rintro r w1 ⟨t1, rfl, ht1, b1⟩; have hz1 : t1.size ≤ 1 := Nat.le_trans (Nat.le_of_eq (size_of ht1)) HL1.out; have HT1 : Hid (type_of% ht1) := ht1; have HB1 : Hid (type_of% b1) := b1; have HA1 : Hid (Below (w.heap.size + 1) (w.alloc (.cells #[.int .u8 k, .bool false, .int .i64 s] 63)) w1) := (by (refine Below.trans ?_ (b1.mono ?_) <;> first | exact bch | exact bcl)); have hs1 : w.heap.size + 1 ≤ w1.heap.size := box_size HA1.out; clear ht1 b1)
   | (go_at_call 129; (fail_if_success (have := HT2)); refine (constOf_txt _ _).mono ?_; rintro r w2 ⟨rfl, b2⟩; have HT2 : Hid True := trivial; have HB2 : Hid (type_of% b2) := b2; have HA2 : Hid (Below (w.heap.size + 1) (w.alloc (.cells #[.int .u8 k, .bool false, .int .i64 s] 63)) w2) := (by (refine Below.trans ?_ (b2.mono ?_) <;> first | exact bch | exact bcl)); have hs2 : w.heap.size + 1 ≤ w2.heap.size := box_size HA2.out; clear b2)
   | (go_at_call 121; (fail_if_success (have := HT3)); refine (bytes_txt _ _ 2 [0, cst k] ?_ rfl HBT3.out).mono ?_; exact bbx; rintro r w3 ⟨t3, rfl, ht3, b3⟩; have hz3 : t3.size ≤ 2 := Nat.le_of_eq (size_of ht3); have HT3 : Hid (type_of% ht3) := ht3; have HB3 : Hid (type_of% b3) := b3; have HA3 : Hid (Below (w.heap.size + 1) (w.alloc (.cells #[.int .u8 k, .bool false, .int .i64 s] 63)) w3) := (by (refine Below.trans ?_ (b3.mono ?_) <;> first | exact bch | exact bcl)); have hs3 : w.heap.size + 1 ≤ w3.heap.size := box_size HA3.out; have hq3 : ¬ 9223372036854775807 < t1.size + t3.size := (by omega); clear ht3 b3)
   | (go_at_call 130; (fail_if_success (have := HT4)); refine (HC4.out _ ?_).mono ?_; exact bch; rintro r w4 ⟨t4, rfl, ht4, b4⟩; have hz4 : t4.size ≤ 10 := Nat.le_trans (Nat.le_of_eq (size_of ht4)) HL4.out; have HT4 : Hid (type_of% ht4) := ht4; have HB4 : Hid (type_of% b4) := b4; have HA4 : Hid (Below (w.heap.size + 1) (w.alloc (.cells #[.int .u8 k, .bool false, .int .i64 s] 63)) w4) := (by (refine Below.trans ?_ (b4.mono ?_) <;> first | exact bch | exact bcl)); have hs4 : w.heap.size + 1 ≤ w4.heap.size := box_size HA4.out; have hq4 : ¬ 9223372036854775807 < t1.size + t3.size + t4.size := (by omega); clear ht4 b4)
   | (go_at_call 121; (fail_if_success (have := HT5)); refine (bytes_txt _ _ 1 [11] ?_ rfl HBT5.out).mono ?_; exact bbx; rintro r w5 ⟨t5, rfl, ht5, b5⟩; have hz5 : t5.size ≤ 1 := Nat.le_of_eq (size_of ht5); have HT5 : Hid (type_of% ht5) := ht5; have HB5 : Hid (type_of% b5) := b5; have HA5 : Hid (Below (w.heap.size + 1) (w.alloc (.cells #[.int .u8 k, .bool false, .int .i64 s] 63)) w5) := (by (refine Below.trans ?_ (b5.mono ?_) <;> first | exact bch | exact bcl)); have hs5 : w.heap.size + 1 ≤ w5.heap.size := box_size HA5.out; have hq5 : ¬ 9223372036854775807 < t1.size + t3.size + t4.size + t5.size := (by omega); clear ht5 b5))
 all_goals
  go_wp2
  go_ret
  refine ⟨_, rfl, ?_, (Below.trans ((Below.refl _ _).alloc (Nat.le_refl _) _) (HA5.out.mono (Nat.le_succ _)))⟩
  simp only [nums_append]
  rw [HT1.out, HT3.out, HT4.out, HT5.out]
  simp [tGlo]
theorem globalText_1 (w : World) (k s : Int) (hk : 0 ≤ k ∧ k < 256) (h0 : -9223372036854775808 ≤ s) (h1 : s ≤ 9223372036854775807) :
  Calls Tryz.prog 80 #[.agg #[.int .u8 k, .bool true, .int .i64 s]] w (Txt w (tGlo ⟨k, true, s⟩)) := by
 have HC1 : Hid (∀ w', Below (w.heap.size + 1) (w.alloc (.cells #[.int .u8 k, .bool true, .int .i64 s] 63)) w' → Calls Tryz.prog 123 #[.int .u8 k] w' (Txt w' [k])) := fun w' _ => kindText_any k hk.1 hk.2 w'
 have HC4 : Hid (∀ w', Below (w.heap.size + 1) (w.alloc (.cells #[.int .u8 k, .bool true, .int .i64 s] 63)) w' → Calls Tryz.prog 130 #[.int .i64 s] w' (Txt w' (sB s))) := fun w' _ => s_txt s h0 h1 w'
 have HL1 : Hid ([k].length ≤ 1) := Nat.le_refl _
 have HL4 : Hid ((sB s).length ≤ 10) := sB_len64 s h0 h1
 have HBT3 : Hid (Bts [1, cst k]) := fun b hb => by
  have : cst k = 65 ∨ cst k = 66 := by unfold cst; split <;> simp
  simp at hb
  omega
 have HBT5 : Hid (Bts [11]) := fun b hb => by simp at hb; omega
 clear hk h0 h1
 go_enter Tryz.func80, Tryz.ntmps80
 go_wp2
 go_region_held3 (fun w' => w'.cell? ⟨w.heap.size, 0, none⟩ = some (.int .u8 k) ∧ w'.cell? ⟨w.heap.size, 1, none⟩ = some (.bool true) ∧ w'.cell? ⟨w.heap.size, 2, none⟩ = some (.int .i64 s))
  (first | exact agg3 bch | go_keep)
  (first
   | (go_at_call 123; (fail_if_success (have := HT1)); refine (HC1.out _ ?_).mono ?_; exact bch; rintro r w1 ⟨t1, rfl, ht1, b1⟩; have hz1 : t1.size ≤ 1 := Nat.le_trans (Nat.le_of_eq (size_of ht1)) HL1.out; have HT1 : Hid (type_of% ht1) := ht1; have HB1 : Hid (type_of% b1) := b1; have HA1 : Hid (Below (w.heap.size + 1) (w.alloc (.cells #[.int .u8 k, .bool true, .int .i64 s] 63)) w1) := (by (refine Below.trans ?_ (b1.mono ?_) <;> first | exact bch | exact bcl)); have hs1 : w.heap.size + 1 ≤ w1.heap.size := box_size HA1.out; clear ht1 b1)
   | (go_at_call 129; (fail_if_success (have := HT2)); refine (constOf_txt _ _).mono ?_; rintro r w2 ⟨rfl, b2⟩; have HT2 : Hid True := trivial; have HB2 : Hid (type_of% b2) := b2; have HA2 : Hid (Below (w.heap.size + 1) (w.alloc (.cells #[.int .u8 k, .bool true, .int .i64 s] 63)) w2) := (by (refine Below.trans ?_ (b2.mono ?_) <;> first | exact bch | exact bcl)); have hs2 : w.heap.size + 1 ≤ w2.heap.size := box_size HA2.out; clear b2)
   | (go_at_call 121; (fail_if_success (have := HT3)); refine (bytes_txt _ _ 2 [1, cst k] ?_ rfl HBT3.out).mono ?_; exact bbx; rintro r w3 ⟨t3, rfl, ht3, b3⟩; have hz3 : t3.size ≤ 2 := Nat.le_of_eq (size_of ht3); have HT3 : Hid (type_of% ht3) := ht3; have HB3 : Hid (type_of% b3) := b3; have HA3 : Hid (Below (w.heap.size + 1) (w.alloc (.cells #[.int .u8 k, .bool true, .int .i64 s] 63)) w3) := (by (refine Below.trans ?_ (b3.mono ?_) <;> first | exact bch | exact bcl)); have hs3 : w.heap.size + 1 ≤ w3.heap.size := box_size HA3.out; have hq3 : ¬ 9223372036854775807 < t1.size + t3.size := (by omega); clear ht3 b3)
   | (go_at_call 130; (fail_if_success (have := HT4)); refine (HC4.out _ ?_).mono ?_; exact bch; rintro r w4 ⟨t4, rfl, ht4, b4⟩; have hz4 : t4.size ≤ 10 := Nat.le_trans (Nat.le_of_eq (size_of ht4)) HL4.out; have HT4 : Hid (type_of% ht4) := ht4; have HB4 : Hid (type_of% b4) := b4; have HA4 : Hid (Below (w.heap.size + 1) (w.alloc (.cells #[.int .u8 k, .bool true, .int .i64 s] 63)) w4) := (by (refine Below.trans ?_ (b4.mono ?_) <;> first | exact bch | exact bcl)); have hs4 : w.heap.size + 1 ≤ w4.heap.size := box_size HA4.out; have hq4 : ¬ 9223372036854775807 < t1.size + t3.size + t4.size := (by omega); clear ht4 b4)
   | (go_at_call 121; (fail_if_success (have := HT5)); refine (bytes_txt _ _ 1 [11] ?_ rfl HBT5.out).mono ?_; exact bbx; rintro r w5 ⟨t5, rfl, ht5, b5⟩; have hz5 : t5.size ≤ 1 := Nat.le_of_eq (size_of ht5); have HT5 : Hid (type_of% ht5) := ht5; have HB5 : Hid (type_of% b5) := b5; have HA5 : Hid (Below (w.heap.size + 1) (w.alloc (.cells #[.int .u8 k, .bool true, .int .i64 s] 63)) w5) := (by (refine Below.trans ?_ (b5.mono ?_) <;> first | exact bch | exact bcl)); have hs5 : w.heap.size + 1 ≤ w5.heap.size := box_size HA5.out; have hq5 : ¬ 9223372036854775807 < t1.size + t3.size + t4.size + t5.size := (by omega); clear ht5 b5))
 all_goals
  go_wp2
  go_ret
  refine ⟨_, rfl, ?_, (Below.trans ((Below.refl _ _).alloc (Nat.le_refl _) _) (HA5.out.mono (Nat.le_succ _)))⟩
  simp only [nums_append]
  rw [HT1.out, HT3.out, HT4.out, HT5.out]
  simp [tGlo]
theorem elemText_any (w0 w : World) (a : Int) (f : NumD) (hb : Below w0.heap.size w0 w) (h0 : -9223372036854775808 ≤ a) (h1 : a ≤ 9223372036854775807) (hf : f.ok .i64 w0) (hfn : f.xs.length ≤ 16) (hfk : ∀ k ∈ f.xs, 0 ≤ k ∧ k ≤ 9223372036854775807) :
  Calls Tryz.prog 85 #[.agg #[.int .i64 a, .slice f.o f.n f.cap]] w (Txt w (tEle ⟨a, f.xs⟩)) := by
 have hNw : w0.heap.size ≤ w.heap.size := hb.size
 have HC1 : Hid (∀ w', Below (w.heap.size + 1) (w.alloc (.cells #[.int .i64 a, .slice f.o f.n f.cap] 68)) w' → Calls Tryz.prog 133 #[.int .i64 a] w' (Txt w' (tPlace a))) := fun w' _ => placeText_any a h0 h1 w'
 have HC2 : Hid (∀ w', Below (w.heap.size + 1) (w.alloc (.cells #[.int .i64 a, .slice f.o f.n f.cap] 68)) w' → Calls Tryz.prog 134 #[.slice f.o f.n f.cap, .func (.func 126) #[] #[]] w' (Txt w' (tNs f.xs))) := fun w' b => (listText_int w0.heap.size w0 w' (fun k => uB k.toNat) 10 (by omega) f.xs f.o f.n f.cap hf.len hf.le (by have := hf.len; omega) (hf.at1 (Nat.le_refl _)) (below_box hb hNw b).1 (below_box hb hNw b).2 (fun k hk => uB_len10 _ (by have := hfk k hk; omega)) (fun k hk w'' _ _ => numberText_any k (hfk k hk).1 (hfk k hk).2 w'')).mono fun r w'' h => h.eq (by rw [← hf.len]; rfl)
 have HL1 : Hid ((tPlace a).length ≤ 13) := tPlace_len a h0 h1
 have HL2 : Hid ((tNs f.xs).length ≤ 170) := tNs_len _ 16 hfn (by omega) hfk
 clear hb hf hfn hfk hNw h0 h1
 go_enter Tryz.func85, Tryz.ntmps85
 go_wp2
 go_region_held3 (fun w' => w'.cell? ⟨w.heap.size, 0, none⟩ = some (.int .i64 a) ∧ w'.cell? ⟨w.heap.size, 1, none⟩ = some (.slice f.o f.n f.cap))
  (first | exact agg2 bch | go_keep)
  (first
   | (go_at_call 133; (fail_if_success (have := HT1)); refine (HC1.out _ ?_).mono ?_; exact bch; rintro r w1 ⟨t1, rfl, ht1, b1⟩; have hz1 : t1.size ≤ 13 := Nat.le_trans (Nat.le_of_eq (size_of ht1)) HL1.out; have HT1 : Hid (type_of% ht1) := ht1; have HB1 : Hid (type_of% b1) := b1; have HA1 : Hid (Below (w.heap.size + 1) (w.alloc (.cells #[.int .i64 a, .slice f.o f.n f.cap] 68)) w1) := (by (refine Below.trans ?_ (b1.mono ?_) <;> first | exact bch | exact bcl)); have hs1 : w.heap.size + 1 ≤ w1.heap.size := box_size HA1.out; clear ht1 b1)
   | (go_at_call 134; (fail_if_success (have := HT2)); refine (HC2.out _ ?_).mono ?_; exact bch; rintro r w2 ⟨t2, rfl, ht2, b2⟩; have hz2 : t2.size ≤ 170 := Nat.le_trans (Nat.le_of_eq (size_of ht2)) HL2.out; have HT2 : Hid (type_of% ht2) := ht2; have HB2 : Hid (type_of% b2) := b2; have HA2 : Hid (Below (w.heap.size + 1) (w.alloc (.cells #[.int .i64 a, .slice f.o f.n f.cap] 68)) w2) := (by (refine Below.trans ?_ (b2.mono ?_) <;> first | exact bch | exact bcl)); have hs2 : w.heap.size + 1 ≤ w2.heap.size := box_size HA2.out; have hq2 : ¬ 9223372036854775807 < t1.size + t2.size := (by omega); clear ht2 b2))
 all_goals
  go_wp2
  go_ret
  refine ⟨_, rfl, ?_, (Below.trans ((Below.refl _ _).alloc (Nat.le_refl _) _) (HA2.out.mono (Nat.le_succ _)))⟩
  simp only [nums_append]
  rw [HT1.out, HT2.out]
  simp [tEle]
theorem dataText_any (w : World) (a : Int) (s : ByteArray) (h0 : -9223372036854775808 ≤ a) (h1 : a ≤ 9223372036854775807) (hs : s.size ≤ 64) :
  Calls Tryz.prog 88 #[.agg #[.int .i64 a, .string s]] w (Txt w (tDat ⟨a, nums s⟩)) := by
 have HC1 : Hid (∀ w', Below (w.heap.size + 1) (w.alloc (.cells #[.int .i64 a, .string s] 70)) w' → Calls Tryz.prog 133 #[.int .i64 a] w' (Txt w' (tPlace a))) := fun w' _ => placeText_any a h0 h1 w'
 have HC2 : Hid (∀ w', Below (w.heap.size + 1) (w.alloc (.cells #[.int .i64 a, .string s] 70)) w' → Calls Tryz.prog 136 #[.string s] w' (Txt w' (tName (nums s)))) := fun w' _ => sized_any s (by omega) w'
 have HL1 : Hid ((tPlace a).length ≤ 13) := tPlace_len a h0 h1
 have HL2 : Hid ((tName (nums s)).length ≤ 74) := tName_len _ 64 (by rw [nums_length]; exact hs) (by omega)
 clear hs h0 h1
 go_enter Tryz.func88, Tryz.ntmps88
 go_wp2
 go_region_held3 (fun w' => w'.cell? ⟨w.heap.size, 0, none⟩ = some (.int .i64 a) ∧ w'.cell? ⟨w.heap.size, 1, none⟩ = some (.string s))
  (first | exact agg2 bch | go_keep)
  (first
   | (go_at_call 133; (fail_if_success (have := HT1)); refine (HC1.out _ ?_).mono ?_; exact bch; rintro r w1 ⟨t1, rfl, ht1, b1⟩; have hz1 : t1.size ≤ 13 := Nat.le_trans (Nat.le_of_eq (size_of ht1)) HL1.out; have HT1 : Hid (type_of% ht1) := ht1; have HB1 : Hid (type_of% b1) := b1; have HA1 : Hid (Below (w.heap.size + 1) (w.alloc (.cells #[.int .i64 a, .string s] 70)) w1) := (by (refine Below.trans ?_ (b1.mono ?_) <;> first | exact bch | exact bcl)); have hs1 : w.heap.size + 1 ≤ w1.heap.size := box_size HA1.out; clear ht1 b1)
   | (go_at_call 136; (fail_if_success (have := HT2)); refine (HC2.out _ ?_).mono ?_; exact bch; rintro r w2 ⟨t2, rfl, ht2, b2⟩; have hz2 : t2.size ≤ 74 := Nat.le_trans (Nat.le_of_eq (size_of ht2)) HL2.out; have HT2 : Hid (type_of% ht2) := ht2; have HB2 : Hid (type_of% b2) := b2; have HA2 : Hid (Below (w.heap.size + 1) (w.alloc (.cells #[.int .i64 a, .string s] 70)) w2) := (by (refine Below.trans ?_ (b2.mono ?_) <;> first | exact bch | exact bcl)); have hs2 : w.heap.size + 1 ≤ w2.heap.size := box_size HA2.out; have hq2 : ¬ 9223372036854775807 < t1.size + t2.size := (by omega); clear ht2 b2))
 all_goals
  go_wp2
  go_ret
  refine ⟨_, rfl, ?_, (Below.trans ((Below.refl _ _).alloc (Nat.le_refl _) _) (HA2.out.mono (Nat.le_succ _)))⟩
  simp only [nums_append]
  rw [HT1.out, HT2.out]
  simp [tDat]
theorem groupText_any (w : World) (z : Nat) (k : Int) (hz : z ≤ 1000) (hk : 0 ≤ k ∧ k < 256) :
  Calls Tryz.prog 139 #[.agg #[.int .i64 (z : Int), .int .u8 k]] w (Txt w (tGrp (z, k))) := by
 have HC1 : Hid (∀ w', Below (w.heap.size + 1) (w.alloc (.cells #[.int .i64 (z : Int), .int .u8 k] 185)) w' → Calls Tryz.prog 126 #[.int .i64 (z : Int)] w' (Txt w' (uB z))) := fun w' _ => numberText_any (z : Int) (by omega) (by omega) w'
 have HC2 : Hid (∀ w', Below (w.heap.size + 1) (w.alloc (.cells #[.int .i64 (z : Int), .int .u8 k] 185)) w' → Calls Tryz.prog 123 #[.int .u8 k] w' (Txt w' [k])) := fun w' _ => kindText_any k hk.1 hk.2 w'
 have HL1 : Hid ((uB z).length ≤ 10) := uB_len10 _ (by omega)
 have HL2 : Hid ([k].length ≤ 1) := Nat.le_refl _
 clear hz hk
 go_enter Tryz.func139, Tryz.ntmps139
 go_wp2
 go_region_held3 (fun w' => w'.cell? ⟨w.heap.size, 0, none⟩ = some (.int .i64 (z : Int)) ∧ w'.cell? ⟨w.heap.size, 1, none⟩ = some (.int .u8 k))
  (first | exact agg2 bch | go_keep)
  (first
   | (go_at_call 126; (fail_if_success (have := HT1)); refine (HC1.out _ ?_).mono ?_; exact bch; rintro r w1 ⟨t1, rfl, ht1, b1⟩; have hz1 : t1.size ≤ 10 := Nat.le_trans (Nat.le_of_eq (size_of ht1)) HL1.out; have HT1 : Hid (type_of% ht1) := ht1; have HB1 : Hid (type_of% b1) := b1; have HA1 : Hid (Below (w.heap.size + 1) (w.alloc (.cells #[.int .i64 (z : Int), .int .u8 k] 185)) w1) := (by (refine Below.trans ?_ (b1.mono ?_) <;> first | exact bch | exact bcl)); have hs1 : w.heap.size + 1 ≤ w1.heap.size := box_size HA1.out; clear ht1 b1)
   | (go_at_call 123; (fail_if_success (have := HT2)); refine (HC2.out _ ?_).mono ?_; exact bch; rintro r w2 ⟨t2, rfl, ht2, b2⟩; have hz2 : t2.size ≤ 1 := Nat.le_trans (Nat.le_of_eq (size_of ht2)) HL2.out; have HT2 : Hid (type_of% ht2) := ht2; have HB2 : Hid (type_of% b2) := b2; have HA2 : Hid (Below (w.heap.size + 1) (w.alloc (.cells #[.int .i64 (z : Int), .int .u8 k] 185)) w2) := (by (refine Below.trans ?_ (b2.mono ?_) <;> first | exact bch | exact bcl)); have hs2 : w.heap.size + 1 ≤ w2.heap.size := box_size HA2.out; have hq2 : ¬ 9223372036854775807 < t1.size + t2.size := (by omega); clear ht2 b2))
 all_goals
  go_wp2
  go_ret
  refine ⟨_, rfl, ?_, (Below.trans ((Below.refl _ _).alloc (Nat.le_refl _) _) (HA2.out.mono (Nat.le_succ _)))⟩
  simp only [nums_append]
  rw [HT1.out, HT2.out]
  rfl
end Go.Proofs.YtakpkdckajjooaaGreatDoor
