/-
 The library's own contract of strings.Builder's String, at this program.
 What strings.Builder's WriteString does at this program.
 What the program's own nest.Write does.
 The program's own nest.Write, for every body.
-/
import Derived.Test.YtakpkdckajjooaaGreatDoorProg
import Derived.Below
import Derived.Shelf.Strings.Builder1
import Derived.Lib.Builder
import Derived.Lib.AppendStr
import Derived.WalkKit
import Derived.Laws.Externs
import Derived.Test.YtakpkdckajjooaaGreatDoorWNQ
set_option maxHeartbeats 4000000
set_option maxRecDepth 1000000
namespace Go.Proofs.YtakpkdckajjooaaGreatDoor
set_option linter.unusedVariables false
open Go.Shelf Go.RowKit
def stRen : Go.Shelf.Ren := ⟨fun | 169 => 175 | n => n, fun | 70 => 221 | 9 => 9 | 0 => 0 | 72 => 223 | 37 => 142 | 127 => 244 | 3 => 3 | 5 => 5 | n => n, fun | n => n⟩
theorem stLays : Go.Proofs.Lays.n169 Tryz.prog stRen := {
 mixed := by kernel_rfl
 f169 := Tryz.func175.trans (congrArg some (by kernel_rfl))
 t0 := Tryz.underlying0
 a0 := Tryz.isAgg0
 z0 := Tryz.sizeOf0
 v0 := Tryz.zeroValue0
 t3 := Tryz.underlying3
 a3 := Tryz.isAgg3
 z3 := Tryz.sizeOf3
 v3 := Tryz.zeroValue3
 t9 := Tryz.underlying9
 a9 := Tryz.isAgg9
 z9 := Tryz.sizeOf9
 v9 := Tryz.zeroValue9
 t37 := Tryz.underlying142
 a37 := Tryz.isAgg142
 z37 := Tryz.sizeOf142
 v37 := Tryz.zeroValue142
 t70 := Tryz.underlying221
 a70 := Tryz.isAgg221
 z70 := Tryz.sizeOf221
 v70 := Tryz.zeroValue221
 t72 := Tryz.underlying223
 a72 := Tryz.isAgg223
 z72 := Tryz.sizeOf223
 v72 := Tryz.zeroValue223
 t127 := Tryz.underlying244
 a127 := Tryz.isAgg244
 z127 := Tryz.sizeOf244
 v127 := Tryz.zeroValue244 }
theorem stExtra : Go.Proofs.Builder.Extra Tryz.prog stRen := {
 sizeBuilder := by kernel_rfl
 liesBuilder := by kernel_rfl
 t5 := Tryz.underlying5
 a5 := Tryz.isAgg5
 z5 := Tryz.sizeOf5
 v5 := Tryz.zeroValue5
 infoByte := by kernel_rfl
 cellsByte := by kernel_rfl
 sizeByte := by kernel_rfl
 neB5 := by decide }
theorem bstring_any (B b : Nat) (l : List UInt8) (w : World) (h : Lib.IsBuilder (stRen.t 72) 5 B b (Lib.byteCells l) w) (hB : B ≤ w.heap.size) :
  Calls Tryz.prog 175 #[.pointer (some ⟨b, 0, none⟩)] w fun e w' => e = .returned (.string ⟨l.toArray⟩) ∧ Below B w w' :=
 Any.Builder_String_any stLays stExtra B b l w h hB
end Go.Proofs.YtakpkdckajjooaaGreatDoor
namespace Go.Proofs.YtakpkdckajjooaaGreatDoor
set_option linter.unusedVariables false
open Go.RowKit
def BD (w : World) (B b : Nat) (l : List UInt8) : Prop := Lib.IsBuilder 223 5 B b (Lib.byteCells l) w
theorem bcopy_used (b : Nat) (w : World) (h0 : w.cell? ⟨b, 0, none⟩ = some (.pointer (some ⟨b, 0, none⟩))) :
  Calls Tryz.prog 204 #[.pointer (some ⟨b, 0, none⟩)] w fun e w' => e = .returned (.tuple #[]) ∧ w' = w := by
 obtain ⟨j, hj, _⟩ := Option.map_eq_some_iff.1 stExtra.sizeBuilder
 go_enter Tryz.func204, Tryz.ntmps204
 go_wp2
 rw [Lib.run_neq_ptr_same w _ Tryz.underlying221 hj]
 go_wp2
 go_end0
 exact ⟨rfl, rfl⟩
theorem bcopy_fresh (b : Nat) (w : World) (h0 : w.cell? ⟨b, 0, none⟩ = some (.pointer none)) (hsh : w.shape? b = some (223, 2)) (hfz : w.frozen? ⟨b, 0, none⟩ = false) :
  Calls Tryz.prog 204 #[.pointer (some ⟨b, 0, none⟩)] w fun e w' => e = .returned (.tuple #[]) ∧ w' = w.setCell ⟨b, 0, none⟩ (.pointer (some ⟨b, 0, none⟩)) := by
 obtain ⟨j, hj, hjs⟩ := Option.map_eq_some_iff.1 stExtra.sizeBuilder
 go_enter Tryz.func204, Tryz.ntmps204
 go_wp2
 rw [Lib.run_to_unsafe w ⟨b, 0, none⟩ Tryz.underlying221 Tryz.underlying263 hj (by rw [hjs]; decide) hsh (Nat.zero_lt_succ 1)]
 simp only [Result.andThen]
 rw [Oper.upon_value]
 go_wp2
 rw [run_callFunc_extern Tryz.func224 (by kernel_rfl) (by kernel_rfl) (by kernel_rfl) (e := Extern.AbiNoEscape.same) (by kernel_rfl)]
 rw [Lib.run_noEscape]
 simp only [Result.andThen]
 rw [Oper.upon_value]
 go_wp2
 rw [Lib.run_from_unsafe w ⟨b, 0, none⟩ Tryz.underlying263 Tryz.underlying221 hj hsh stExtra.liesBuilder]
 simp only [Result.andThen]
 rw [Oper.upon_value]
 go_wp2
 go_end0
 exact ⟨rfl, rfl⟩
theorem bcopy_any (B b : Nat) (l : List UInt8) (w : World) (h : BD w B b l) :
  Calls Tryz.prog 204 #[.pointer (some ⟨b, 0, none⟩)] w fun e w' => e = .returned (.tuple #[]) ∧ Lib.BuilderAt 223 5 B b (.pointer (some ⟨b, 0, none⟩)) (Lib.byteCells l) w' ∧ Below B w w' := by
 rcases h with h | h
 ·refine (bcopy_fresh b w h.cell0 h.shape h.frozen0).mono ?_
  rintro e w' ⟨rfl, rfl⟩
  exact ⟨rfl, h.used _, (Below.refl B w).setCell (p := ⟨b, 0, none⟩) h.1 _⟩
 ·refine (bcopy_used b w h.cell0).mono ?_
  rintro e w' ⟨rfl, rfl⟩
  exact ⟨rfl, h, Below.refl B _⟩
theorem bwrite_any (B b : Nat) (l : List UInt8) (s : ByteArray) (w : World) (h : BD w B b l) (hl : l.length + s.size ≤ 100000000) (hB : B ≤ w.heap.size) :
  Calls Tryz.prog 174 #[.pointer (some ⟨b, 0, none⟩), .string s] w fun e w' => e = .returned (.tuple #[.int .i64 s.size, .nilIface]) ∧ BD w' B b (l ++ s.data.toList) ∧ Below B w w' := by
 obtain ⟨i0, hi, hz0, hz1, hz2⟩ := info_parts stExtra.infoByte
 have HCC := bcopy_any B b l w h
 clear h
 go_enter Tryz.func174, Tryz.ntmps174
 go_wp2_with (go_at_call 204; refine HCC.mono ?_)
 rintro e w1 ⟨rfl, h1, hb1⟩
 obtain ⟨hBb, v, hbk, hown, hne⟩ := h1
 rw [Lib.byteCells_length] at hown
 have c0 : w1.cell? ⟨b, 0, none⟩ = some (.pointer (some ⟨b, 0, none⟩)) := by rw [Lib.cell_of_heap hbk]; rfl
 have c1 : w1.cell? ⟨b, 1, none⟩ = some v := by rw [Lib.cell_of_heap hbk]; rfl
 have hs1 := hb1.size
 go_wp2_with (at_builtin; refine Lib.wpList_append_own_string _ rfl _ _ 142 9 rfl B 5 i0 Tryz.underlying142 Tryz.underlying9 hi hz0 hz1 hz2 _ _ _ rfl hown s rfl (by unfold maxLen; omega) (by omega) (by omega) ?_)
 intro v' w2 hown' hgrow _
 have hlt : b < w1.heap.size := (Array.getElem?_eq_some_iff.1 hbk).1
 have hb2 : w2.heap[b]? = some (.cells #[.pointer (some ⟨b, 0, none⟩), v] 223 (0, 0)) := by
  rw [hgrow.block b hlt (fun e => hne e.symm)]
  exact hbk
 have d0 : w2.cell? ⟨b, 0, none⟩ = some (.pointer (some ⟨b, 0, none⟩)) := by rw [Lib.cell_of_heap hb2]; rfl
 have d1 : w2.cell? ⟨b, 1, none⟩ = some v := by rw [Lib.cell_of_heap hb2]; rfl
 have f1 : w2.frozen? ⟨b, 1, none⟩ = false := Lib.frozen_of_heap hb2 1
 obtain ⟨ao, n', cap, rfl⟩ : ∃ ao n' cap, v' = .slice ao n' cap := by
  rcases hown'.2 with ⟨hv, _⟩ | ⟨g, cap, cur, hv, _⟩
  ·exact ⟨_, _, _, hv⟩
  ·exact ⟨_, _, _, hv⟩
 have hsz : (Lib.byteCells (l ++ s.data.toList)).length = l.length + s.size := by
  rw [Lib.byteCells_length, List.length_append, Array.length_toList]
  rfl
 have HBP : Hid (BD (w2.setCell ⟨b, 1, none⟩ (.slice ao n' cap)) B b (l ++ s.data.toList)) := by
  refine Or.inr (Lib.BuilderAt.put (T := 223) (e := 5) hBb hb2 ?_ (by decide))
  rw [hsz, Lib.byteCells_append]
  exact hown'
 have HBL : Hid (Below B w (w2.setCell ⟨b, 1, none⟩ (.slice ao n' cap))) := (hb1.grown hgrow (by omega) (fun k hk => (hown.lt k hk).1)).setCell (p := ⟨b, 1, none⟩) hBb _
 clear hown' hgrow hown hbk hb2 hsz
 go_wp2
 go_ret2
 exact ⟨rfl, HBP.out, HBL.out⟩
theorem BD.under {w w' : World} {B b : Nat} {l : List UInt8} (h : BD w B b l) (hb : Below w.heap.size w w') : BD w' B b l := by
 have q : ∀ p, Lib.BuilderAt 223 5 B b p (Lib.byteCells l) w → Lib.BuilderAt 223 5 B b p (Lib.byteCells l) w' := by
  intro p h
  have hlt := h.lt
  obtain ⟨h1, v, h2, h3, h4⟩ := h
  exact ⟨h1, v, by rw [hb.block b hlt]; exact h2, h3.kept (row := none) ⟨hb.os, hb.tape, hb.output, hb.size, fun k hk _ => hb.block k hk⟩ (by cases hv : v.ownBlock <;> simp), h4⟩
 rcases h with h | h
 ·exact Or.inl (q _ h)
 ·exact Or.inr (q _ h)
theorem BD.new (w : World) : BD (w.alloc (.cells #[.pointer none, .slice none 0 0] 223)) w.heap.size w.heap.size [] :=
 Or.inl ⟨Nat.le_refl _, .slice none 0 0, heap_alloc_new w _, World.ownsRow_nil _ _ _ _, by simp [Value.ownBlock]⟩
theorem BD.lt {w : World} {B b : Nat} {l : List UInt8} (h : BD w B b l) : b < w.heap.size := by
 rcases h with h | h <;> exact h.lt
end Go.Proofs.YtakpkdckajjooaaGreatDoor
namespace Go.Proofs.YtakpkdckajjooaaGreatDoor
set_option linter.unusedVariables false
open Go.RowKit
theorem nums_list (l : List UInt8) (s : ByteArray) : nums ⟨(l ++ s.data.toList).toArray⟩ = nums ⟨l.toArray⟩ ++ nums s := by
 unfold nums
 simp
theorem nums_nil' : nums ⟨([] : List UInt8).toArray⟩ = [] := rfl
theorem nums_len' (l : List UInt8) : (nums ⟨l.toArray⟩).length = l.length := by
 unfold nums
 simp
def bodyT (V : List V4) : List Int := V.flatMap V4.text
theorem bodyT_len : ∀ (V : List V4), (∀ v ∈ V, v.text.length ≤ 1001) → (bodyT V).length ≤ V.length * 1001
 | [], _ => by simp [bodyT]
 | v :: V, h => by
  have h1 := h v (by simp)
  have h2 := bodyT_len V fun x hx => h x (by simp [hx])
  unfold bodyT at h2 ⊢
  rw [List.flatMap_cons, List.length_append, List.length_cons]
  omega
theorem nwrite_bad (o : Option Addr) (n cap : Nat) (e : Int) (_he : (e == 0) = false) (w : World) (HC : Hid (Calls Tryz.prog 114 #[.slice o n cap] w fun r w' => r = .returned (.int .i64 e) ∧ Below w.heap.size w w')) :
  Calls Tryz.prog 135 #[.slice o n cap] w fun r w' => r = .returned (.tuple #[.string ⟨#[]⟩, .int .i64 e]) ∧ Below w.heap.size w w' := by
 have hne : (e != 0) = true := by rw [bne, _he]; rfl
 go_enter Tryz.func135, Tryz.ntmps135
 go_wp2_with fail
 refine HC.out.mono ?_
 rintro r w1 ⟨rfl, b1⟩
 go_wp2
 go_ret2
 exact ⟨rfl, b1⟩
theorem nwrite_ok (o : Option Addr) (cap n : Nat) (L : List InsD) (hl : L.length = n) (hn : n ≤ 200) (_hcap : n ≤ cap) (w : World) (h : LD w o L) (HC : Hid (Calls Tryz.prog 114 #[.slice o n cap] w fun r w' => r = .returned (.int .i64 0) ∧ Below w.heap.size w w'))
  (HLN : Hid (∀ v ∈ L.map InsD.val, v.text.length ≤ 1001))
  (HW : Hid (∀ d ∈ L, ∀ w', Below w.heap.size w w' → Calls Tryz.prog 179 #[.agg #[.int .u8 d.op, .int .i64 d.A, .int .i64 d.B, .slice d.o d.n d.cap]] w' fun r w'' => ∃ t, r = .returned (.tuple #[.string t, .int .i64 0]) ∧ nums t = d.val.text ∧ Below w'.heap.size w' w'')) :
  Calls Tryz.prog 135 #[.slice o n cap] w fun r w' => ∃ t, r = .returned (.tuple #[.string t, .int .i64 0]) ∧ nums t = bodyT (L.map InsD.val) ∧ Below w.heap.size w w' := by
 have HLn : Hid (L.length = n) := hl
 have HLD : Hid (LD w o L) := h
 have hni : (n : Int) ≤ 200 := by omega
 clear hl h
 go_enter Tryz.func135, Tryz.ntmps135
 go_wp2_with fail
 refine HC.out.mono ?_
 rintro r w1 ⟨rfl, b1⟩
 have HB1 : Hid (Below w.heap.size w w1) := b1
 have hs1 := b1.size
 have HD0 : Hid (∃ l : List UInt8, nums ⟨l.toArray⟩ = bodyT ((L.take 0).map InsD.val) ∧ BD (w1.alloc (.cells #[.pointer none, .slice none 0 0] 223)) w1.heap.size w1.heap.size l) := ⟨[], by simp [bodyT]; exact nums_nil', BD.new w1⟩
 have HB2 : Hid (Below w.heap.size w (w1.alloc (.cells #[.pointer none, .slice none 0 0] 223))) := b1.alloc hs1 _
 clear b1 HC
 go_wp2
 go_loopw [17] (fun i wr => ∃ k : Nat, i = .int .i64 k ∧ k ≤ n ∧ Hid (∃ l : List UInt8, nums ⟨l.toArray⟩ = bodyT ((L.take k).map InsD.val) ∧ BD wr w1.heap.size w1.heap.size l) ∧ Hid (Below w.heap.size w wr)) (fun i _ => n - (intOf i).toNat)
 case atStart => exact ⟨0, rfl, by omega, HD0, HB2⟩
 case round =>
  obtain ⟨k, rfl, hk, HD, HB⟩ := hrel
  clear HD0 HB2
  obtain ⟨l, hnl, hbd⟩ := HD.out
  have HNL : Hid (type_of% hnl) := hnl
  have HBD : Hid (type_of% hbd) := hbd
  have hw1 : w1.heap.size < wr.heap.size := hbd.lt
  clear HD hnl hbd
  by_cases hlt : k < n
  ·have hkl : k < L.length := by rw [HLn.out]; exact hlt
   have hmem : L[k] ∈ L := List.getElem_mem hkl
   rcases HLD.out.2 with h0 | ⟨b, f, rfl, hbw, hc⟩
   ·exfalso; rw [h0] at hkl; simp at hkl
   obtain ⟨m0, m1, m2, m3⟩ := hc k hkl
   have HWd := HW.out _ hmem
   have hll : l.length ≤ k * 1001 := by
    rw [← nums_len', HNL.out]
    refine Nat.le_trans (bodyT_len _ fun v hv => HLN.out v ?_) ?_
    ·exact (List.map_subset _ (List.take_subset _ _)) hv
    ·simp only [List.length_map, List.length_take]
     exact Nat.mul_le_mul_right _ (Nat.min_le_left _ _)
   have hdl : (L[k]).val.text.length ≤ 1001 := HLN.out _ (List.mem_map_of_mem hmem)
   have HTK : Hid (bodyT ((L.take (k + 1)).map InsD.val) = bodyT ((L.take k).map InsD.val) ++ (L[k]).val.text) := by
    unfold Hid bodyT
    rw [List.take_succ_eq_append_getElem hkl, List.map_append, List.flatMap_append]
    simp
   have e0 := HB.out.cell (p := ⟨b, f + k * 4, none⟩) hbw
   have e1 := HB.out.cell (p := ⟨b, f + k * 4 + 1, none⟩) hbw
   have e2 := HB.out.cell (p := ⟨b, f + k * 4 + 2, none⟩) hbw
   have e3 := HB.out.cell (p := ⟨b, f + k * 4 + 3, none⟩) hbw
   rw [m0] at e0
   rw [m1] at e1
   rw [m2] at e2
   rw [m3] at e3
   generalize L[k] = d at e0 e1 e2 e3 HWd HTK hdl
   have HWe : Hid (type_of% HWd) := HWd
   clear hc m0 m1 m2 m3 hmem HWd
   have hki0 : (0 : Int) ≤ (k : Int) := by omega
   have hki1 : (k : Int) < (n : Int) := by omega
   have hbA := HBD.out.under ((Below.refl _ _).alloc (Nat.le_refl _) (.cells #[.int .u8 d.op, .int .i64 d.A, .int .i64 d.B, .slice d.o d.n d.cap] 161))
   have HBA : Hid (type_of% hbA) := hbA
   clear hbA HBD
   go_wp2_with fail
   refine (HWe.out _ (HB.out.alloc (by omega) _)).mono ?_
   rintro r w2 ⟨t, rfl, ht, b2⟩
   have hsz : t.size = d.val.text.length := by rw [← nums_length, ht]
   have hw2 := b2.size
   rw [World.size_alloc] at hw2
   have HCW := bwrite_any w1.heap.size w1.heap.size l t w2 (HBA.out.under b2) (by omega) (by omega)
   have HCX : Hid (type_of% HCW) := HCW
   have HT : Hid (type_of% ht) := ht
   have HB3 : Hid (Below w.heap.size w w2) := (HB.out.alloc (by omega) _).trans (b2.mono (by simp; omega))
   clear HCW ht b2 HBA HB HWe e0 e1 e2 e3
   go_wp2_with fail
   refine HCX.out.mono ?_
   rintro r w3 ⟨rfl, hb3, b3⟩
   have HD3 : Hid (∃ l : List UInt8, nums ⟨l.toArray⟩ = bodyT ((L.take (k + 1)).map InsD.val) ∧ BD w3 w1.heap.size w1.heap.size l) := ⟨_, by rw [nums_list, HNL.out, HT.out, HTK.out], hb3⟩
   have HB4 : Hid (Below w.heap.size w w3) := HB3.out.trans (b3.mono hs1)
   clear hb3 b3 HCX HB3
   go_wp2
   go_roundw
   case rel => exact ⟨k + 1, by go_num, by omega, HD3, HB4⟩
   case measure => simp [intOf]; omega
  ·have hkn : L.take k = L := List.take_of_length_le (by rw [HLn.out]; omega)
   rw [hkn] at HNL
   have HST := bstring_any w1.heap.size w1.heap.size l wr HBD.out (by omega)
   have HSU : Hid (type_of% HST) := HST
   clear HST HBD hkn
   go_wp2_with fail
   refine HSU.out.mono ?_
   rintro r w2 ⟨rfl, b2⟩
   go_wp2
   go_ret2
   exact ⟨_, rfl, HNL.out, HB.out.trans (b2.mono hs1)⟩
end Go.Proofs.YtakpkdckajjooaaGreatDoor
namespace Go.Proofs.YtakpkdckajjooaaGreatDoor
set_option linter.unusedVariables false
open Go.RowKit
theorem nRun_chk : ∀ (L : List InsD) (bs : List Int) (en : Bool), (nRun L bs en).1 = 0 → ∀ d ∈ L, chkD d = 0
 | [], _, _, _, d, hd => absurd hd (by simp)
 | x :: L, bs, en, h, d, hd => by
  rw [nRun] at h
  by_cases h0 : (nStep (chkD x) x.op bs en).1 = 0
  ·rw [if_pos h0] at h
   rw [List.mem_cons] at hd
   rcases hd with rfl | hd
   ·exact (step_chk h0).1
   ·exact nRun_chk L _ _ h d hd
  ·rw [if_neg h0] at h
   exact absurd h h0
theorem nChk_zero (L : List InsD) (h : nChk L = 0) : L.length ≤ 200 ∧ (nRun L [] false).1 = 0 ∧ (nRun L [] false).2.2 = true := by
 unfold nChk at h
 split at h
 ·cases h
 ·split at h
  ·rename_i h1 h2
   split at h
   ·rename_i h3
    exact ⟨by omega, h2, h3⟩
   ·cases h
  ·rename_i h2
   exact absurd h h2
theorem nChk_of (L : List InsD) (h0 : L.length ≤ 200) (h1 : (nRun L [] false).1 = 0) (h2 : (nRun L [] false).2.2 = true) : nChk L = 0 := by
 unfold nChk
 rw [if_neg (by omega), if_pos h1, if_pos h2]
theorem LD.lens {w : World} {o : Option Addr} {L : List InsD} (h : LD w o L) : ∀ d ∈ L, d.xs.length = d.n := fun d hd => (h.1 d hd).lj.1
theorem nwrite_any (o : Option Addr) (cap : Nat) (L : List InsD) (w : World) (h : LD w o L) (hcap : L.length ≤ cap) (hT : TabIn w) (ht0 : 3 < w.heap.size) :
  Calls Tryz.prog 135 #[.slice o L.length cap] w fun r w' => Below w.heap.size w w' ∧ ((nChk L ≠ 0 ∧ r = .returned (.tuple #[.string ⟨#[]⟩, .int .i64 (nChk L)])) ∨ (nChk L = 0 ∧ ∃ t, r = .returned (.tuple #[.string t, .int .i64 0]) ∧ nums t = bodyT (L.map InsD.val))) := by
 have hck := ncheck_any o cap L w h hT ht0
 by_cases hc : nChk L = 0
 ·obtain ⟨h200, h1, h2⟩ := nChk_zero L hc
  have hall := nRun_chk L [] false h1
  have hfit : ∀ d ∈ L, fitC (besV d.op) d.A d.B d.xs := fun d hd => by
   have := val_chk d (h.lens d hd)
   exact (vchk_fit d.val (by rw [this]; exact hall d hd)).2
  rw [hc] at hck
  refine (nwrite_ok o cap L.length L rfl h200 hcap w h hck ?_ ?_).mono ?_
  ·intro v hv
   obtain ⟨d, hd, rfl⟩ := List.mem_map.1 hv
   have := besT_len _ _ _ _ (hfit d hd) (h.1 d hd).a
   show (d.op :: besT (besV d.op) d.A d.B d.xs).length ≤ 1001
   rw [List.length_cons]
   omega
  ·intro d hd w' b
   have hk := (h.1 d hd).below b
   have hm := hk.most
   have hc2 := hk.cap
   unfold maxLen at hm
   exact vwrite_ok d.op d.A d.B d.o d.n d.cap d.xs hk.cap hk.op0 hk.op1 (hfit d hd) (hall d hd) (by omega) hk.a w' hk.lj (hT.chg (P := w.heap.size) (Chg.of_below b) ht0 (by omega)) (Nat.lt_of_lt_of_le ht0 b.size)
  ·rintro r w' ⟨t, rfl, ht, b⟩
   exact ⟨b, Or.inr ⟨hc, t, rfl, ht⟩⟩
 ·refine (nwrite_bad o L.length cap (nChk L) (by rw [beq_eq_false_iff_ne]; exact hc) w hck).mono ?_
  rintro r w' ⟨rfl, b⟩
  exact ⟨b, Or.inl ⟨hc, rfl⟩⟩
end Go.Proofs.YtakpkdckajjooaaGreatDoor
