/-
 What Check says of the parts of a module; the checker, and how it goes through lists.
-/
import Derived.Test.YtgleeocebnjliaaGreatDoorBBPart1
import Derived.Test.YtgleeocebnjliaaGreatDoorBQM
import Derived.Test.YtgleeocebnjliaaGreatDoorBQX
set_option maxHeartbeats 4000000
set_option maxRecDepth 1000000
namespace Go.Proofs.YtgleeocebnjliaaGreatDoor
set_option linter.unusedVariables false
open Go.RowKit
def okE (b : Bool) (e : Int) : Int := if b = true then 0 else e
def frst {α : Type} (f : α → Int) : List α → Int
 | [] => 0
 | x :: L => fstE (f x) (frst f L)
def chkL {α : Type} (most : Int) (f : α → Int) (L : List α) : Int := fstE (okE (decide ((L.length : Int) ≤ most)) 2) (frst f L)
theorem fstE_assoc (a b c : Int) : fstE (fstE a b) c = fstE a (fstE b c) := by
 unfold fstE
 by_cases h : a = 0
 ·simp [h]
 ·simp [h]
theorem fstE_right (a : Int) : fstE a 0 = a := by
 unfold fstE
 split <;> simp_all
theorem frst_app {α : Type} (f : α → Int) (A B : List α) : frst f (A ++ B) = fstE (frst f A) (frst f B) := by
 induction A with
 | nil => simp [frst, fstE]
 | cons x A ih => rw [List.cons_append, frst, frst, ih, fstE_assoc]
theorem frst_snoc {α : Type} (f : α → Int) (L : List α) (i : Nat) (h : i < L.length) : frst f (L.take (i + 1)) = fstE (frst f (L.take i)) (f L[i]) := by
 rw [List.take_succ_eq_append_getElem h, frst_app, frst, frst, fstE_right]
theorem frst_stop {α : Type} (a : Int) (f : α → Int) (L : List α) (i : Nat) (h : fstE a (frst f (L.take i)) ≠ 0) : fstE a (frst f L) = fstE a (frst f (L.take i)) := by
 have e : frst f L = fstE (frst f (L.take i)) (frst f (L.drop i)) := by rw [← frst_app, List.take_append_drop]
 rw [e, ← fstE_assoc, fstE_ne h]
def CK (w : World) (K : Nat) (a : Int) : Prop := w.heap[K]? = some (.cells #[.int .i64 a] 99 (0, 0))
theorem CK.lt {w : World} {K : Nat} {a : Int} (h : CK w K a) : K < w.heap.size := some_lt h
theorem CK.c {w : World} {K : Nat} {a : Int} (h : CK w K a) : w.cell? ⟨K, 0, none⟩ = some (.int .i64 a) := by
 unfold CK at h
 simp [World.cell?, h]
theorem CK.f {w : World} {K : Nat} {a : Int} (h : CK w K a) : w.frozen? ⟨K, 0, none⟩ = false := by
 unfold CK at h
 simp [World.frozen?, h]
theorem CK.set {w : World} {K : Nat} {a : Int} (h : CK w K a) (b : Int) : CK (w.setCell ⟨K, 0, none⟩ (.int .i64 b)) K b := by
 unfold CK at h ⊢
 simp [World.setCell, Array.getElem?_modify, h]
theorem CK.under {w w' : World} {K : Nat} {a : Int} (h : CK w K a) (b : Below w.heap.size w w') : CK w' K a := by
 unfold CK at h ⊢
 rw [b.block K (some_lt h), h]
def CkOut (K : Nat) (w : World) (a : Int) (r : Ending) (w' : World) : Prop := r = .returned (.tuple #[]) ∧ CK w' K a ∧ Chg K w w'
theorem need_any (K : Nat) (w : World) (a e : Int) (b : Bool) (h : CK w K a) :
  Calls Tryz.prog 87 #[.pointer (some ⟨K, 0, none⟩), .bool b, .int .i64 e] w (CkOut K w (fstE a (okE b e))) := by
 have hc := h.c
 have hf := h.f
 have HR : Hid (CK w K a) := h
 clear h
 by_cases h0 : a = 0
 ·subst h0
  cases b with
  | true =>
   go_enter Tryz.func87, Tryz.ntmps87
   go_wp2
   go_end0
   exact ⟨rfl, HR.out, Chg.refl _ _⟩
  | false =>
   go_enter Tryz.func87, Tryz.ntmps87
   go_wp2
   go_end0
   exact ⟨rfl, by have := HR.out.set e; unfold fstE okE; simpa using this, Chg.set _ _ _ _⟩
 ·have hb0 : (a == 0) = false := by rw [beq_eq_false_iff_ne]; exact h0
  rw [fstE_ne h0]
  go_enter Tryz.func87, Tryz.ntmps87
  go_wp2
  go_end0
  exact ⟨rfl, HR.out, Chg.refl _ _⟩
theorem each_sig (K N : Nat) (w0 w : World) (most a : Int) (chk : SigD → Int) (L : List SigD) (o : Option Addr) (n cap : Nat) (hn : L.length = n) (hcap : n ≤ cap) (hmax : cap ≤ maxLen)
  (hr : L = [] ∨ ∃ b f, o = some ⟨b, f, none⟩ ∧ b < N ∧ ∀ i (h : i < L.length) r, r < 2 → w0.cell? ⟨b, f + i * 2 + r, none⟩ = (SigD.cells L[i])[r]?)
  (h : CK w K a) (hb : Below N w0 w) (hNK : N ≤ K) (hNw : N ≤ w.heap.size)
  (HLOOK : Hid (∀ d ∈ L, ∀ w' a', CK w' K a' → Below N w0 w' → N ≤ w'.heap.size → Calls Tryz.prog 82 #[.pointer (some ⟨K, 0, none⟩), .agg #[.slice d.i.o d.i.n d.i.cap, .slice d.r.o d.r.n d.r.cap]] w' (CkOut K w' (fstE a' (chk d))))) :
  Calls Tryz.prog 81 #[.pointer (some ⟨K, 0, none⟩), .slice o n cap, .int .i64 most, .func (.func 82) #[.pointer (some ⟨K, 0, none⟩)] #[]] w (CkOut K w (fstE a (chkL most chk L))) := by
 unfold maxLen at hmax
 have HN : Hid (type_of% (need_any K w a 2 (decide ((n : Int) ≤ most)) h)) := need_any K w a 2 (decide ((n : Int) ≤ most)) h
 have HBW : Hid (Below N w0 w) := hb
 have HL : Hid (L.length = n) := hn
 have HSZ : Hid (N ≤ w.heap.size) := hNw
 rcases hr with rfl | ⟨b, f, rfl, hbN, hcells⟩
 ·have hn0 : n = 0 := by rw [← hn]; rfl
  subst hn0
  clear h hb hn hNw
  have HE0 : Hid (fstE a (chkL most chk []) = fstE a (okE (decide (((0 : Nat) : Int) ≤ most)) 2)) := by
   unfold Hid chkL frst
   rw [fstE_right]
   rfl
  go_enter Tryz.func81, Tryz.ntmps81
  go_wp2_with fail
  refine HN.out.mono ?_
  rintro r w1 ⟨rfl, hk1, hb1⟩
  rw [← HE0.out] at hk1
  have HK1 : Hid (type_of% hk1) := hk1
  have HB1 : Hid (Chg K w w1) := hb1
  clear hk1 hb1 HN
  go_wp2
  go_loopw [18] (fun iv wr => iv = .int .i64 0 ∧ Hid (CK wr K (fstE a (chkL most chk []))) ∧ Hid (Chg K w wr)) (fun _ _ => 0)
  case atStart => exact ⟨rfl, HK1, HB1⟩
  case round =>
   obtain ⟨rfl, HK, HB⟩ := hrel
   go_wp2
   go_end0
   exact ⟨rfl, HK.out, HB.out⟩
 have HR : Hid (type_of% hcells) := hcells
 clear h hb hcells hn hNw
 go_enter Tryz.func81, Tryz.ntmps81
 go_wp2_with fail
 refine HN.out.mono ?_
 rintro r w1 ⟨rfl, hk1, hb1⟩
 obtain ⟨a1, ha1⟩ : ∃ a1, a1 = fstE a (okE (decide ((n : Int) ≤ most)) 2) := ⟨_, rfl⟩
 rw [← ha1] at hk1
 have HE : Hid (fstE a (chkL most chk L) = fstE a1 (frst chk L)) := by
  unfold Hid chkL
  rw [ha1, fstE_assoc, HL.out]
 have HK1 : Hid (CK w1 K a1) := hk1
 have HB1 : Hid (Chg K w w1) := hb1
 clear hk1 hb1 HN ha1
 go_wp2
 go_loopw [18] (fun iv wr => ∃ i : Nat, iv = .int .i64 (i : Int) ∧ i ≤ n ∧ Hid (CK wr K (fstE a1 (frst chk (L.take i)))) ∧ Hid (Chg K w wr)) (fun iv _ => n - (intOf iv).toNat)
 case atStart => exact ⟨0, rfl, by omega, by unfold Hid; rw [List.take_zero, frst, fstE_right]; exact HK1.out, HB1⟩
 case round =>
  obtain ⟨i, rfl, hin, HK, HCg⟩ := hrel
  have HB : Hid (Below N w0 wr) := below_chg HBW.out HCg.out hNK HSZ.out
  clear HK1 HB1
  by_cases hlt : i < n
  ·have hiL : i < L.length := by rw [HL.out]; exact hlt
   have hi0 : (0 : Int) ≤ (i : Int) := by omega
   have hi1 : (i : Int) < (n : Int) := by omega
   have HS : Hid (frst chk (L.take (i + 1)) = fstE (frst chk (L.take i)) (chk L[i])) := frst_snoc chk L i hiL
   have HST : Hid (fstE a1 (frst chk (L.take i)) ≠ 0 → fstE a1 (frst chk L) = fstE a1 (frst chk (L.take i))) := frst_stop a1 chk L i
   have HLK : Hid (type_of% (HLOOK.out L[i] (List.getElem_mem hiL))) := HLOOK.out L[i] (List.getElem_mem hiL)
   have HCC : Hid (∀ r, r < 2 → wr.cell? ⟨b, f + i * 2 + r, none⟩ = (SigD.cells L[i])[r]?) := fun r hr => by
    rw [HB.out.cell (p := ⟨b, f + i * 2 + r, none⟩) hbN]
    exact HR.out i hiL r hr
   obtain ⟨d, hd⟩ : ∃ d, d = L[i] := ⟨_, rfl⟩
   rw [← hd] at HS HLK HCC
   clear hd
   have HCD : Hid ((fun d0 => chk d0) d = chk d) := rfl
   obtain ⟨cd, hcd⟩ : ∃ cd, cd = chk d := ⟨_, rfl⟩
   rw [← hcd] at HS HLK
   clear hcd HCD
   obtain ⟨⟨o1, n1, c1, x1⟩, ⟨o2, n2, c2, x2⟩⟩ := d
   have e0 : wr.cell? ⟨b, f + i * 2, none⟩ = some (.slice o1 n1 c1) := HCC.out 0 (by omega)
   have e1 : wr.cell? ⟨b, f + i * 2 + 1, none⟩ = some (.slice o2 n2 c2) := HCC.out 1 (by omega)
   have hc := HK.out.c
   have hKs := HK.out.lt
   have hbK : b ≠ K := by omega
   generalize hee : fstE a1 (frst chk (L.take i)) = ee at HK HST hc
   have HEE : Hid (fstE a1 (frst chk (L.take i)) = ee) := hee
   clear hee
   by_cases h0 : ee = 0
   ·subst h0
    have hs0 : (wr.alloc (.cells #[.slice none 0 0, .slice none 0 0] 46)).heap.size = wr.heap.size + 1 := by simp
    have hKn : K ≠ wr.heap.size := by omega
    have hbn : b ≠ wr.heap.size := by
     have := HB.out.size
     have h2 := HK.out.lt
     omega
    have HBA : Hid (Below N w0 (wr.alloc (.cells #[.slice o1 n1 c1, .slice o2 n2 c2] 46))) := HB.out.alloc (by have := HB.out.size; omega) _
    have HKA : Hid (CK (wr.alloc (.cells #[.slice o1 n1 c1, .slice o2 n2 c2] 46)) K 0) := HK.out.under ((Below.refl _ _).alloc (Nat.le_refl _) _)
    have hKn2 : wr.heap.size ≠ K := fun e => hKn e.symm
    have HSW : Hid (N ≤ ((wr.alloc (.cells #[.slice o1 n1 c1, .slice o2 n2 c2] 46))).heap.size) := by
     have h4 := HK.out.lt
     unfold Hid
     simp
     omega
    go_wp2_with fail
    refine (HLK.out _ _ HKA.out HBA.out HSW.out).mono ?_
    rintro r w2 ⟨rfl, hk2, hb2⟩
    have HK2 : Hid (CK w2 K (fstE a1 (frst chk (L.take (i + 1))))) := by
     unfold Hid
     rw [HS.out, ← fstE_assoc, HEE.out]
     exact hk2
    have HB2 : Hid (Chg K w w2) := HCg.out.trans ((Chg.of_below ((Below.refl _ _).alloc (Nat.le_refl _) _)).trans hb2)
    clear hk2 hb2 HK HB HCg HLK HCC HS HST HEE HKA HBA HSW
    go_wp2
    go_roundw
    case rel => exact ⟨i + 1, by go_num, by omega, HK2, HB2⟩
    case measure => simp [intOf]; omega
   ·have hb0 : (ee == 0) = false := by rw [beq_eq_false_iff_ne]; exact h0
    have hn0 : (ee != 0) = true := by rw [bne, hb0]; rfl
    have HH0 : Hid (ee ≠ 0) := h0
    have hKn : K ≠ wr.heap.size := by omega
    have hKn2 : wr.heap.size ≠ K := by omega
    have HBA : Hid (Below N w0 (wr.alloc (.cells #[.slice o1 n1 c1, .slice o2 n2 c2] 46))) := HB.out.alloc (by have := HB.out.size; omega) _
    have HKA : Hid (CK (wr.alloc (.cells #[.slice o1 n1 c1, .slice o2 n2 c2] 46)) K ee) := HK.out.under ((Below.refl _ _).alloc (Nat.le_refl _) _)
    clear h0
    go_wp2
    go_end0
    exact ⟨rfl, by rw [HE.out, HST.out HH0.out]; exact HKA.out, HCg.out.trans (Chg.of_below ((Below.refl _ _).alloc (Nat.le_refl _) _))⟩
  ·have HKF : Hid (CK wr K (fstE a1 (frst chk L))) := by
    have h1 := HK.out
    rw [List.take_of_length_le (by rw [HL.out]; omega)] at h1
    exact h1
   clear HK
   go_wp2
   go_end0
   exact ⟨rfl, by rw [HE.out]; exact HKF.out, HCg.out⟩
theorem each_imp (K N : Nat) (w0 w : World) (most a : Int) (chk : NamD → Int) (L : List NamD) (o : Option Addr) (n cap : Nat) (hn : L.length = n) (hcap : n ≤ cap) (hmax : cap ≤ maxLen)
  (hr : L = [] ∨ ∃ b f, o = some ⟨b, f, none⟩ ∧ b < N ∧ ∀ i (h : i < L.length) r, r < 2 → w0.cell? ⟨b, f + i * 2 + r, none⟩ = (NamD.cells L[i])[r]?)
  (h : CK w K a) (hb : Below N w0 w) (hNK : N ≤ K) (hNw : N ≤ w.heap.size)
  (HLOOK : Hid (∀ d ∈ L, ∀ w' a', CK w' K a' → Below N w0 w' → N ≤ w'.heap.size → Calls Tryz.prog 84 #[.pointer (some ⟨K, 0, none⟩), .agg #[.string d.s, .int .i64 d.n]] w' (CkOut K w' (fstE a' (chk d))))) :
  Calls Tryz.prog 83 #[.pointer (some ⟨K, 0, none⟩), .slice o n cap, .int .i64 most, .func (.func 84) #[.pointer (some ⟨K, 0, none⟩)] #[]] w (CkOut K w (fstE a (chkL most chk L))) := by
 unfold maxLen at hmax
 have HN : Hid (type_of% (need_any K w a 2 (decide ((n : Int) ≤ most)) h)) := need_any K w a 2 (decide ((n : Int) ≤ most)) h
 have HBW : Hid (Below N w0 w) := hb
 have HL : Hid (L.length = n) := hn
 have HSZ : Hid (N ≤ w.heap.size) := hNw
 rcases hr with rfl | ⟨b, f, rfl, hbN, hcells⟩
 ·have hn0 : n = 0 := by rw [← hn]; rfl
  subst hn0
  clear h hb hn hNw
  have HE0 : Hid (fstE a (chkL most chk []) = fstE a (okE (decide (((0 : Nat) : Int) ≤ most)) 2)) := by
   unfold Hid chkL frst
   rw [fstE_right]
   rfl
  go_enter Tryz.func83, Tryz.ntmps83
  go_wp2_with fail
  refine HN.out.mono ?_
  rintro r w1 ⟨rfl, hk1, hb1⟩
  rw [← HE0.out] at hk1
  have HK1 : Hid (type_of% hk1) := hk1
  have HB1 : Hid (Chg K w w1) := hb1
  clear hk1 hb1 HN
  go_wp2
  go_loopw [18] (fun iv wr => iv = .int .i64 0 ∧ Hid (CK wr K (fstE a (chkL most chk []))) ∧ Hid (Chg K w wr)) (fun _ _ => 0)
  case atStart => exact ⟨rfl, HK1, HB1⟩
  case round =>
   obtain ⟨rfl, HK, HB⟩ := hrel
   go_wp2
   go_end0
   exact ⟨rfl, HK.out, HB.out⟩
 have HR : Hid (type_of% hcells) := hcells
 clear h hb hcells hn hNw
 go_enter Tryz.func83, Tryz.ntmps83
 go_wp2_with fail
 refine HN.out.mono ?_
 rintro r w1 ⟨rfl, hk1, hb1⟩
 obtain ⟨a1, ha1⟩ : ∃ a1, a1 = fstE a (okE (decide ((n : Int) ≤ most)) 2) := ⟨_, rfl⟩
 rw [← ha1] at hk1
 have HE : Hid (fstE a (chkL most chk L) = fstE a1 (frst chk L)) := by
  unfold Hid chkL
  rw [ha1, fstE_assoc, HL.out]
 have HK1 : Hid (CK w1 K a1) := hk1
 have HB1 : Hid (Chg K w w1) := hb1
 clear hk1 hb1 HN ha1
 go_wp2
 go_loopw [18] (fun iv wr => ∃ i : Nat, iv = .int .i64 (i : Int) ∧ i ≤ n ∧ Hid (CK wr K (fstE a1 (frst chk (L.take i)))) ∧ Hid (Chg K w wr)) (fun iv _ => n - (intOf iv).toNat)
 case atStart => exact ⟨0, rfl, by omega, by unfold Hid; rw [List.take_zero, frst, fstE_right]; exact HK1.out, HB1⟩
 case round =>
  obtain ⟨i, rfl, hin, HK, HCg⟩ := hrel
  have HB : Hid (Below N w0 wr) := below_chg HBW.out HCg.out hNK HSZ.out
  clear HK1 HB1
  by_cases hlt : i < n
  ·have hiL : i < L.length := by rw [HL.out]; exact hlt
   have hi0 : (0 : Int) ≤ (i : Int) := by omega
   have hi1 : (i : Int) < (n : Int) := by omega
   have HS : Hid (frst chk (L.take (i + 1)) = fstE (frst chk (L.take i)) (chk L[i])) := frst_snoc chk L i hiL
   have HST : Hid (fstE a1 (frst chk (L.take i)) ≠ 0 → fstE a1 (frst chk L) = fstE a1 (frst chk (L.take i))) := frst_stop a1 chk L i
   have HLK : Hid (type_of% (HLOOK.out L[i] (List.getElem_mem hiL))) := HLOOK.out L[i] (List.getElem_mem hiL)
   have HCC : Hid (∀ r, r < 2 → wr.cell? ⟨b, f + i * 2 + r, none⟩ = (NamD.cells L[i])[r]?) := fun r hr => by
    rw [HB.out.cell (p := ⟨b, f + i * 2 + r, none⟩) hbN]
    exact HR.out i hiL r hr
   obtain ⟨d, hd⟩ : ∃ d, d = L[i] := ⟨_, rfl⟩
   rw [← hd] at HS HLK HCC
   clear hd
   have HCD : Hid ((fun d0 => chk d0) d = chk d) := rfl
   obtain ⟨cd, hcd⟩ : ∃ cd, cd = chk d := ⟨_, rfl⟩
   rw [← hcd] at HS HLK
   clear hcd HCD
   obtain ⟨s1, n1⟩ := d
   have e0 : wr.cell? ⟨b, f + i * 2, none⟩ = some (.string s1) := HCC.out 0 (by omega)
   have e1 : wr.cell? ⟨b, f + i * 2 + 1, none⟩ = some (.int .i64 n1) := HCC.out 1 (by omega)
   have hc := HK.out.c
   have hKs := HK.out.lt
   have hbK : b ≠ K := by omega
   generalize hee : fstE a1 (frst chk (L.take i)) = ee at HK HST hc
   have HEE : Hid (fstE a1 (frst chk (L.take i)) = ee) := hee
   clear hee
   by_cases h0 : ee = 0
   ·subst h0
    have hs0 : (wr.alloc (.cells #[.string ⟨#[]⟩, .int .i64 0] 121)).heap.size = wr.heap.size + 1 := by simp
    have hKn : K ≠ wr.heap.size := by omega
    have hbn : b ≠ wr.heap.size := by
     have := HB.out.size
     have h2 := HK.out.lt
     omega
    have HBA : Hid (Below N w0 (wr.alloc (.cells #[.string s1, .int .i64 n1] 121))) := HB.out.alloc (by have := HB.out.size; omega) _
    have HKA : Hid (CK (wr.alloc (.cells #[.string s1, .int .i64 n1] 121)) K 0) := HK.out.under ((Below.refl _ _).alloc (Nat.le_refl _) _)
    have hKn2 : wr.heap.size ≠ K := fun e => hKn e.symm
    have HSW : Hid (N ≤ ((wr.alloc (.cells #[.string s1, .int .i64 n1] 121))).heap.size) := by
     have h4 := HK.out.lt
     unfold Hid
     simp
     omega
    go_wp2_with fail
    refine (HLK.out _ _ HKA.out HBA.out HSW.out).mono ?_
    rintro r w2 ⟨rfl, hk2, hb2⟩
    have HK2 : Hid (CK w2 K (fstE a1 (frst chk (L.take (i + 1))))) := by
     unfold Hid
     rw [HS.out, ← fstE_assoc, HEE.out]
     exact hk2
    have HB2 : Hid (Chg K w w2) := HCg.out.trans ((Chg.of_below ((Below.refl _ _).alloc (Nat.le_refl _) _)).trans hb2)
    clear hk2 hb2 HK HB HCg HLK HCC HS HST HEE HKA HBA HSW
    go_wp2
    go_roundw
    case rel => exact ⟨i + 1, by go_num, by omega, HK2, HB2⟩
    case measure => simp [intOf]; omega
   ·have hb0 : (ee == 0) = false := by rw [beq_eq_false_iff_ne]; exact h0
    have hn0 : (ee != 0) = true := by rw [bne, hb0]; rfl
    have HH0 : Hid (ee ≠ 0) := h0
    have hKn : K ≠ wr.heap.size := by omega
    have hKn2 : wr.heap.size ≠ K := by omega
    have HBA : Hid (Below N w0 (wr.alloc (.cells #[.string s1, .int .i64 n1] 121))) := HB.out.alloc (by have := HB.out.size; omega) _
    have HKA : Hid (CK (wr.alloc (.cells #[.string s1, .int .i64 n1] 121)) K ee) := HK.out.under ((Below.refl _ _).alloc (Nat.le_refl _) _)
    clear h0
    go_wp2
    go_end0
    exact ⟨rfl, by rw [HE.out, HST.out HH0.out]; exact HKA.out, HCg.out.trans (Chg.of_below ((Below.refl _ _).alloc (Nat.le_refl _) _))⟩
  ·have HKF : Hid (CK wr K (fstE a1 (frst chk L))) := by
    have h1 := HK.out
    rw [List.take_of_length_le (by rw [HL.out]; omega)] at h1
    exact h1
   clear HK
   go_wp2
   go_end0
   exact ⟨rfl, by rw [HE.out]; exact HKF.out, HCg.out⟩
theorem each_fun (K N : Nat) (w0 w : World) (most a : Int) (chk : FunD → Int) (L : List FunD) (o : Option Addr) (n cap : Nat) (hn : L.length = n) (hcap : n ≤ cap) (hmax : cap ≤ maxLen)
  (hr : L = [] ∨ ∃ b f, o = some ⟨b, f, none⟩ ∧ b < N ∧ ∀ i (h : i < L.length) r, r < 3 → w0.cell? ⟨b, f + i * 3 + r, none⟩ = (FunD.cells L[i])[r]?)
  (h : CK w K a) (hb : Below N w0 w) (hNK : N ≤ K) (hNw : N ≤ w.heap.size)
  (HLOOK : Hid (∀ d ∈ L, ∀ w' a', CK w' K a' → Below N w0 w' → N ≤ w'.heap.size → Calls Tryz.prog 86 #[.pointer (some ⟨K, 0, none⟩), .agg #[.int .i64 d.t, .slice d.l.o d.l.n d.l.cap, .slice d.o d.b.length d.cap]] w' (CkOut K w' (fstE a' (chk d))))) :
  Calls Tryz.prog 85 #[.pointer (some ⟨K, 0, none⟩), .slice o n cap, .int .i64 most, .func (.func 86) #[.pointer (some ⟨K, 0, none⟩)] #[]] w (CkOut K w (fstE a (chkL most chk L))) := by
 unfold maxLen at hmax
 have HN : Hid (type_of% (need_any K w a 2 (decide ((n : Int) ≤ most)) h)) := need_any K w a 2 (decide ((n : Int) ≤ most)) h
 have HBW : Hid (Below N w0 w) := hb
 have HL : Hid (L.length = n) := hn
 have HSZ : Hid (N ≤ w.heap.size) := hNw
 rcases hr with rfl | ⟨b, f, rfl, hbN, hcells⟩
 ·have hn0 : n = 0 := by rw [← hn]; rfl
  subst hn0
  clear h hb hn hNw
  have HE0 : Hid (fstE a (chkL most chk []) = fstE a (okE (decide (((0 : Nat) : Int) ≤ most)) 2)) := by
   unfold Hid chkL frst
   rw [fstE_right]
   rfl
  go_enter Tryz.func85, Tryz.ntmps85
  go_wp2_with fail
  refine HN.out.mono ?_
  rintro r w1 ⟨rfl, hk1, hb1⟩
  rw [← HE0.out] at hk1
  have HK1 : Hid (type_of% hk1) := hk1
  have HB1 : Hid (Chg K w w1) := hb1
  clear hk1 hb1 HN
  go_wp2
  go_loopw [18] (fun iv wr => iv = .int .i64 0 ∧ Hid (CK wr K (fstE a (chkL most chk []))) ∧ Hid (Chg K w wr)) (fun _ _ => 0)
  case atStart => exact ⟨rfl, HK1, HB1⟩
  case round =>
   obtain ⟨rfl, HK, HB⟩ := hrel
   go_wp2
   go_end0
   exact ⟨rfl, HK.out, HB.out⟩
 have HR : Hid (type_of% hcells) := hcells
 clear h hb hcells hn hNw
 go_enter Tryz.func85, Tryz.ntmps85
 go_wp2_with fail
 refine HN.out.mono ?_
 rintro r w1 ⟨rfl, hk1, hb1⟩
 obtain ⟨a1, ha1⟩ : ∃ a1, a1 = fstE a (okE (decide ((n : Int) ≤ most)) 2) := ⟨_, rfl⟩
 rw [← ha1] at hk1
 have HE : Hid (fstE a (chkL most chk L) = fstE a1 (frst chk L)) := by
  unfold Hid chkL
  rw [ha1, fstE_assoc, HL.out]
 have HK1 : Hid (CK w1 K a1) := hk1
 have HB1 : Hid (Chg K w w1) := hb1
 clear hk1 hb1 HN ha1
 go_wp2
 go_loopw [18] (fun iv wr => ∃ i : Nat, iv = .int .i64 (i : Int) ∧ i ≤ n ∧ Hid (CK wr K (fstE a1 (frst chk (L.take i)))) ∧ Hid (Chg K w wr)) (fun iv _ => n - (intOf iv).toNat)
 case atStart => exact ⟨0, rfl, by omega, by unfold Hid; rw [List.take_zero, frst, fstE_right]; exact HK1.out, HB1⟩
 case round =>
  obtain ⟨i, rfl, hin, HK, HCg⟩ := hrel
  have HB : Hid (Below N w0 wr) := below_chg HBW.out HCg.out hNK HSZ.out
  clear HK1 HB1
  by_cases hlt : i < n
  ·have hiL : i < L.length := by rw [HL.out]; exact hlt
   have hi0 : (0 : Int) ≤ (i : Int) := by omega
   have hi1 : (i : Int) < (n : Int) := by omega
   have HS : Hid (frst chk (L.take (i + 1)) = fstE (frst chk (L.take i)) (chk L[i])) := frst_snoc chk L i hiL
   have HST : Hid (fstE a1 (frst chk (L.take i)) ≠ 0 → fstE a1 (frst chk L) = fstE a1 (frst chk (L.take i))) := frst_stop a1 chk L i
   have HLK : Hid (type_of% (HLOOK.out L[i] (List.getElem_mem hiL))) := HLOOK.out L[i] (List.getElem_mem hiL)
   have HCC : Hid (∀ r, r < 3 → wr.cell? ⟨b, f + i * 3 + r, none⟩ = (FunD.cells L[i])[r]?) := fun r hr => by
    rw [HB.out.cell (p := ⟨b, f + i * 3 + r, none⟩) hbN]
    exact HR.out i hiL r hr
   obtain ⟨d, hd⟩ : ∃ d, d = L[i] := ⟨_, rfl⟩
   rw [← hd] at HS HLK HCC
   clear hd
   have HCD : Hid ((fun d0 => chk d0) d = chk d) := rfl
   obtain ⟨cd, hcd⟩ : ∃ cd, cd = chk d := ⟨_, rfl⟩
   rw [← hcd] at HS HLK
   clear hcd HCD
   obtain ⟨t1, ⟨o2, n2, c2, x2⟩, o3, c3, b3⟩ := d
   have e0 : wr.cell? ⟨b, f + i * 3, none⟩ = some (.int .i64 t1) := HCC.out 0 (by omega)
   have e1 : wr.cell? ⟨b, f + i * 3 + 1, none⟩ = some (.slice o2 n2 c2) := HCC.out 1 (by omega)
   have e2 : wr.cell? ⟨b, f + i * 3 + 2, none⟩ = some (.slice o3 b3.length c3) := HCC.out 2 (by omega)
   have hc := HK.out.c
   have hKs := HK.out.lt
   have hbK : b ≠ K := by omega
   generalize hee : fstE a1 (frst chk (L.take i)) = ee at HK HST hc
   have HEE : Hid (fstE a1 (frst chk (L.take i)) = ee) := hee
   clear hee
   by_cases h0 : ee = 0
   ·subst h0
    have hs0 : (wr.alloc (.cells #[.int .i64 0, .slice none 0 0, .slice none 0 0] 57)).heap.size = wr.heap.size + 1 := by simp
    have hKn : K ≠ wr.heap.size := by omega
    have hbn : b ≠ wr.heap.size := by
     have := HB.out.size
     have h2 := HK.out.lt
     omega
    have HBA : Hid (Below N w0 (wr.alloc (.cells #[.int .i64 t1, .slice o2 n2 c2, .slice o3 b3.length c3] 57))) := HB.out.alloc (by have := HB.out.size; omega) _
    have HKA : Hid (CK (wr.alloc (.cells #[.int .i64 t1, .slice o2 n2 c2, .slice o3 b3.length c3] 57)) K 0) := HK.out.under ((Below.refl _ _).alloc (Nat.le_refl _) _)
    have hKn2 : wr.heap.size ≠ K := fun e => hKn e.symm
    have HSW : Hid (N ≤ ((wr.alloc (.cells #[.int .i64 t1, .slice o2 n2 c2, .slice o3 b3.length c3] 57))).heap.size) := by
     have h4 := HK.out.lt
     unfold Hid
     simp
     omega
    go_wp2_with fail
    refine (HLK.out _ _ HKA.out HBA.out HSW.out).mono ?_
    rintro r w2 ⟨rfl, hk2, hb2⟩
    have HK2 : Hid (CK w2 K (fstE a1 (frst chk (L.take (i + 1))))) := by
     unfold Hid
     rw [HS.out, ← fstE_assoc, HEE.out]
     exact hk2
    have HB2 : Hid (Chg K w w2) := HCg.out.trans ((Chg.of_below ((Below.refl _ _).alloc (Nat.le_refl _) _)).trans hb2)
    clear hk2 hb2 HK HB HCg HLK HCC HS HST HEE HKA HBA HSW
    go_wp2
    go_roundw
    case rel => exact ⟨i + 1, by go_num, by omega, HK2, HB2⟩
    case measure => simp [intOf]; omega
   ·have hb0 : (ee == 0) = false := by rw [beq_eq_false_iff_ne]; exact h0
    have hn0 : (ee != 0) = true := by rw [bne, hb0]; rfl
    have HH0 : Hid (ee ≠ 0) := h0
    have hKn : K ≠ wr.heap.size := by omega
    have hKn2 : wr.heap.size ≠ K := by omega
    have HBA : Hid (Below N w0 (wr.alloc (.cells #[.int .i64 t1, .slice o2 n2 c2, .slice o3 b3.length c3] 57))) := HB.out.alloc (by have := HB.out.size; omega) _
    have HKA : Hid (CK (wr.alloc (.cells #[.int .i64 t1, .slice o2 n2 c2, .slice o3 b3.length c3] 57)) K ee) := HK.out.under ((Below.refl _ _).alloc (Nat.le_refl _) _)
    clear h0
    go_wp2
    go_end0
    exact ⟨rfl, by rw [HE.out, HST.out HH0.out]; exact HKA.out, HCg.out.trans (Chg.of_below ((Below.refl _ _).alloc (Nat.le_refl _) _))⟩
  ·have HKF : Hid (CK wr K (fstE a1 (frst chk L))) := by
    have h1 := HK.out
    rw [List.take_of_length_le (by rw [HL.out]; omega)] at h1
    exact h1
   clear HK
   go_wp2
   go_end0
   exact ⟨rfl, by rw [HE.out]; exact HKF.out, HCg.out⟩
theorem each_glo (K N : Nat) (w0 w : World) (most a : Int) (chk : GloD → Int) (L : List GloD) (o : Option Addr) (n cap : Nat) (hn : L.length = n) (hcap : n ≤ cap) (hmax : cap ≤ maxLen)
  (hr : L = [] ∨ ∃ b f, o = some ⟨b, f, none⟩ ∧ b < N ∧ ∀ i (h : i < L.length) r, r < 3 → w0.cell? ⟨b, f + i * 3 + r, none⟩ = (GloD.cells L[i])[r]?)
  (h : CK w K a) (hb : Below N w0 w) (hNK : N ≤ K) (hNw : N ≤ w.heap.size)
  (HLOOK : Hid (∀ d ∈ L, ∀ w' a', CK w' K a' → Below N w0 w' → N ≤ w'.heap.size → Calls Tryz.prog 89 #[.pointer (some ⟨K, 0, none⟩), .agg #[.int .u8 d.k, .bool d.m, .int .i64 d.s]] w' (CkOut K w' (fstE a' (chk d))))) :
  Calls Tryz.prog 88 #[.pointer (some ⟨K, 0, none⟩), .slice o n cap, .int .i64 most, .func (.func 89) #[.pointer (some ⟨K, 0, none⟩)] #[]] w (CkOut K w (fstE a (chkL most chk L))) := by
 unfold maxLen at hmax
 have HN : Hid (type_of% (need_any K w a 2 (decide ((n : Int) ≤ most)) h)) := need_any K w a 2 (decide ((n : Int) ≤ most)) h
 have HBW : Hid (Below N w0 w) := hb
 have HL : Hid (L.length = n) := hn
 have HSZ : Hid (N ≤ w.heap.size) := hNw
 rcases hr with rfl | ⟨b, f, rfl, hbN, hcells⟩
 ·have hn0 : n = 0 := by rw [← hn]; rfl
  subst hn0
  clear h hb hn hNw
  have HE0 : Hid (fstE a (chkL most chk []) = fstE a (okE (decide (((0 : Nat) : Int) ≤ most)) 2)) := by
   unfold Hid chkL frst
   rw [fstE_right]
   rfl
  go_enter Tryz.func88, Tryz.ntmps88
  go_wp2_with fail
  refine HN.out.mono ?_
  rintro r w1 ⟨rfl, hk1, hb1⟩
  rw [← HE0.out] at hk1
  have HK1 : Hid (type_of% hk1) := hk1
  have HB1 : Hid (Chg K w w1) := hb1
  clear hk1 hb1 HN
  go_wp2
  go_loopw [18] (fun iv wr => iv = .int .i64 0 ∧ Hid (CK wr K (fstE a (chkL most chk []))) ∧ Hid (Chg K w wr)) (fun _ _ => 0)
  case atStart => exact ⟨rfl, HK1, HB1⟩
  case round =>
   obtain ⟨rfl, HK, HB⟩ := hrel
   go_wp2
   go_end0
   exact ⟨rfl, HK.out, HB.out⟩
 have HR : Hid (type_of% hcells) := hcells
 clear h hb hcells hn hNw
 go_enter Tryz.func88, Tryz.ntmps88
 go_wp2_with fail
 refine HN.out.mono ?_
 rintro r w1 ⟨rfl, hk1, hb1⟩
 obtain ⟨a1, ha1⟩ : ∃ a1, a1 = fstE a (okE (decide ((n : Int) ≤ most)) 2) := ⟨_, rfl⟩
 rw [← ha1] at hk1
 have HE : Hid (fstE a (chkL most chk L) = fstE a1 (frst chk L)) := by
  unfold Hid chkL
  rw [ha1, fstE_assoc, HL.out]
 have HK1 : Hid (CK w1 K a1) := hk1
 have HB1 : Hid (Chg K w w1) := hb1
 clear hk1 hb1 HN ha1
 go_wp2
 go_loopw [18] (fun iv wr => ∃ i : Nat, iv = .int .i64 (i : Int) ∧ i ≤ n ∧ Hid (CK wr K (fstE a1 (frst chk (L.take i)))) ∧ Hid (Chg K w wr)) (fun iv _ => n - (intOf iv).toNat)
 case atStart => exact ⟨0, rfl, by omega, by unfold Hid; rw [List.take_zero, frst, fstE_right]; exact HK1.out, HB1⟩
 case round =>
  obtain ⟨i, rfl, hin, HK, HCg⟩ := hrel
  have HB : Hid (Below N w0 wr) := below_chg HBW.out HCg.out hNK HSZ.out
  clear HK1 HB1
  by_cases hlt : i < n
  ·have hiL : i < L.length := by rw [HL.out]; exact hlt
   have hi0 : (0 : Int) ≤ (i : Int) := by omega
   have hi1 : (i : Int) < (n : Int) := by omega
   have HS : Hid (frst chk (L.take (i + 1)) = fstE (frst chk (L.take i)) (chk L[i])) := frst_snoc chk L i hiL
   have HST : Hid (fstE a1 (frst chk (L.take i)) ≠ 0 → fstE a1 (frst chk L) = fstE a1 (frst chk (L.take i))) := frst_stop a1 chk L i
   have HLK : Hid (type_of% (HLOOK.out L[i] (List.getElem_mem hiL))) := HLOOK.out L[i] (List.getElem_mem hiL)
   have HCC : Hid (∀ r, r < 3 → wr.cell? ⟨b, f + i * 3 + r, none⟩ = (GloD.cells L[i])[r]?) := fun r hr => by
    rw [HB.out.cell (p := ⟨b, f + i * 3 + r, none⟩) hbN]
    exact HR.out i hiL r hr
   obtain ⟨d, hd⟩ : ∃ d, d = L[i] := ⟨_, rfl⟩
   rw [← hd] at HS HLK HCC
   clear hd
   have HCD : Hid ((fun d0 => chk d0) d = chk d) := rfl
   obtain ⟨cd, hcd⟩ : ∃ cd, cd = chk d := ⟨_, rfl⟩
   rw [← hcd] at HS HLK
   clear hcd HCD
   obtain ⟨k1, m1, s1⟩ := d
   have e0 : wr.cell? ⟨b, f + i * 3, none⟩ = some (.int .u8 k1) := HCC.out 0 (by omega)
   have e1 : wr.cell? ⟨b, f + i * 3 + 1, none⟩ = some (.bool m1) := HCC.out 1 (by omega)
   have e2 : wr.cell? ⟨b, f + i * 3 + 2, none⟩ = some (.int .i64 s1) := HCC.out 2 (by omega)
   have hc := HK.out.c
   have hKs := HK.out.lt
   have hbK : b ≠ K := by omega
   generalize hee : fstE a1 (frst chk (L.take i)) = ee at HK HST hc
   have HEE : Hid (fstE a1 (frst chk (L.take i)) = ee) := hee
   clear hee
   by_cases h0 : ee = 0
   ·subst h0
    have hs0 : (wr.alloc (.cells #[.int .u8 0, .bool false, .int .i64 0] 49)).heap.size = wr.heap.size + 1 := by simp
    have hKn : K ≠ wr.heap.size := by omega
    have hbn : b ≠ wr.heap.size := by
     have := HB.out.size
     have h2 := HK.out.lt
     omega
    have HBA : Hid (Below N w0 (wr.alloc (.cells #[.int .u8 k1, .bool m1, .int .i64 s1] 49))) := HB.out.alloc (by have := HB.out.size; omega) _
    have HKA : Hid (CK (wr.alloc (.cells #[.int .u8 k1, .bool m1, .int .i64 s1] 49)) K 0) := HK.out.under ((Below.refl _ _).alloc (Nat.le_refl _) _)
    have hKn2 : wr.heap.size ≠ K := fun e => hKn e.symm
    have HSW : Hid (N ≤ ((wr.alloc (.cells #[.int .u8 k1, .bool m1, .int .i64 s1] 49))).heap.size) := by
     have h4 := HK.out.lt
     unfold Hid
     simp
     omega
    go_wp2_with fail
    refine (HLK.out _ _ HKA.out HBA.out HSW.out).mono ?_
    rintro r w2 ⟨rfl, hk2, hb2⟩
    have HK2 : Hid (CK w2 K (fstE a1 (frst chk (L.take (i + 1))))) := by
     unfold Hid
     rw [HS.out, ← fstE_assoc, HEE.out]
     exact hk2
    have HB2 : Hid (Chg K w w2) := HCg.out.trans ((Chg.of_below ((Below.refl _ _).alloc (Nat.le_refl _) _)).trans hb2)
    clear hk2 hb2 HK HB HCg HLK HCC HS HST HEE HKA HBA HSW
    go_wp2
    go_roundw
    case rel => exact ⟨i + 1, by go_num, by omega, HK2, HB2⟩
    case measure => simp [intOf]; omega
   ·have hb0 : (ee == 0) = false := by rw [beq_eq_false_iff_ne]; exact h0
    have hn0 : (ee != 0) = true := by rw [bne, hb0]; rfl
    have HH0 : Hid (ee ≠ 0) := h0
    have hKn : K ≠ wr.heap.size := by omega
    have hKn2 : wr.heap.size ≠ K := by omega
    have HBA : Hid (Below N w0 (wr.alloc (.cells #[.int .u8 k1, .bool m1, .int .i64 s1] 49))) := HB.out.alloc (by have := HB.out.size; omega) _
    have HKA : Hid (CK (wr.alloc (.cells #[.int .u8 k1, .bool m1, .int .i64 s1] 49)) K ee) := HK.out.under ((Below.refl _ _).alloc (Nat.le_refl _) _)
    clear h0
    go_wp2
    go_end0
    exact ⟨rfl, by rw [HE.out, HST.out HH0.out]; exact HKA.out, HCg.out.trans (Chg.of_below ((Below.refl _ _).alloc (Nat.le_refl _) _))⟩
  ·have HKF : Hid (CK wr K (fstE a1 (frst chk L))) := by
    have h1 := HK.out
    rw [List.take_of_length_le (by rw [HL.out]; omega)] at h1
    exact h1
   clear HK
   go_wp2
   go_end0
   exact ⟨rfl, by rw [HE.out]; exact HKF.out, HCg.out⟩
theorem each_exp (K N : Nat) (w0 w : World) (most a : Int) (chk : NamD → Int) (L : List NamD) (o : Option Addr) (n cap : Nat) (hn : L.length = n) (hcap : n ≤ cap) (hmax : cap ≤ maxLen)
  (hr : L = [] ∨ ∃ b f, o = some ⟨b, f, none⟩ ∧ b < N ∧ ∀ i (h : i < L.length) r, r < 2 → w0.cell? ⟨b, f + i * 2 + r, none⟩ = (NamD.cells L[i])[r]?)
  (h : CK w K a) (hb : Below N w0 w) (hNK : N ≤ K) (hNw : N ≤ w.heap.size)
  (HLOOK : Hid (∀ d ∈ L, ∀ w' a', CK w' K a' → Below N w0 w' → N ≤ w'.heap.size → Calls Tryz.prog 91 #[.pointer (some ⟨K, 0, none⟩), .agg #[.string d.s, .int .i64 d.n]] w' (CkOut K w' (fstE a' (chk d))))) :
  Calls Tryz.prog 90 #[.pointer (some ⟨K, 0, none⟩), .slice o n cap, .int .i64 most, .func (.func 91) #[.pointer (some ⟨K, 0, none⟩)] #[]] w (CkOut K w (fstE a (chkL most chk L))) := by
 unfold maxLen at hmax
 have HN : Hid (type_of% (need_any K w a 2 (decide ((n : Int) ≤ most)) h)) := need_any K w a 2 (decide ((n : Int) ≤ most)) h
 have HBW : Hid (Below N w0 w) := hb
 have HL : Hid (L.length = n) := hn
 have HSZ : Hid (N ≤ w.heap.size) := hNw
 rcases hr with rfl | ⟨b, f, rfl, hbN, hcells⟩
 ·have hn0 : n = 0 := by rw [← hn]; rfl
  subst hn0
  clear h hb hn hNw
  have HE0 : Hid (fstE a (chkL most chk []) = fstE a (okE (decide (((0 : Nat) : Int) ≤ most)) 2)) := by
   unfold Hid chkL frst
   rw [fstE_right]
   rfl
  go_enter Tryz.func90, Tryz.ntmps90
  go_wp2_with fail
  refine HN.out.mono ?_
  rintro r w1 ⟨rfl, hk1, hb1⟩
  rw [← HE0.out] at hk1
  have HK1 : Hid (type_of% hk1) := hk1
  have HB1 : Hid (Chg K w w1) := hb1
  clear hk1 hb1 HN
  go_wp2
  go_loopw [18] (fun iv wr => iv = .int .i64 0 ∧ Hid (CK wr K (fstE a (chkL most chk []))) ∧ Hid (Chg K w wr)) (fun _ _ => 0)
  case atStart => exact ⟨rfl, HK1, HB1⟩
  case round =>
   obtain ⟨rfl, HK, HB⟩ := hrel
   go_wp2
   go_end0
   exact ⟨rfl, HK.out, HB.out⟩
 have HR : Hid (type_of% hcells) := hcells
 clear h hb hcells hn hNw
 go_enter Tryz.func90, Tryz.ntmps90
 go_wp2_with fail
 refine HN.out.mono ?_
 rintro r w1 ⟨rfl, hk1, hb1⟩
 obtain ⟨a1, ha1⟩ : ∃ a1, a1 = fstE a (okE (decide ((n : Int) ≤ most)) 2) := ⟨_, rfl⟩
 rw [← ha1] at hk1
 have HE : Hid (fstE a (chkL most chk L) = fstE a1 (frst chk L)) := by
  unfold Hid chkL
  rw [ha1, fstE_assoc, HL.out]
 have HK1 : Hid (CK w1 K a1) := hk1
 have HB1 : Hid (Chg K w w1) := hb1
 clear hk1 hb1 HN ha1
 go_wp2
 go_loopw [18] (fun iv wr => ∃ i : Nat, iv = .int .i64 (i : Int) ∧ i ≤ n ∧ Hid (CK wr K (fstE a1 (frst chk (L.take i)))) ∧ Hid (Chg K w wr)) (fun iv _ => n - (intOf iv).toNat)
 case atStart => exact ⟨0, rfl, by omega, by unfold Hid; rw [List.take_zero, frst, fstE_right]; exact HK1.out, HB1⟩
 case round =>
  obtain ⟨i, rfl, hin, HK, HCg⟩ := hrel
  have HB : Hid (Below N w0 wr) := below_chg HBW.out HCg.out hNK HSZ.out
  clear HK1 HB1
  by_cases hlt : i < n
  ·have hiL : i < L.length := by rw [HL.out]; exact hlt
   have hi0 : (0 : Int) ≤ (i : Int) := by omega
   have hi1 : (i : Int) < (n : Int) := by omega
   have HS : Hid (frst chk (L.take (i + 1)) = fstE (frst chk (L.take i)) (chk L[i])) := frst_snoc chk L i hiL
   have HST : Hid (fstE a1 (frst chk (L.take i)) ≠ 0 → fstE a1 (frst chk L) = fstE a1 (frst chk (L.take i))) := frst_stop a1 chk L i
   have HLK : Hid (type_of% (HLOOK.out L[i] (List.getElem_mem hiL))) := HLOOK.out L[i] (List.getElem_mem hiL)
   have HCC : Hid (∀ r, r < 2 → wr.cell? ⟨b, f + i * 2 + r, none⟩ = (NamD.cells L[i])[r]?) := fun r hr => by
    rw [HB.out.cell (p := ⟨b, f + i * 2 + r, none⟩) hbN]
    exact HR.out i hiL r hr
   obtain ⟨d, hd⟩ : ∃ d, d = L[i] := ⟨_, rfl⟩
   rw [← hd] at HS HLK HCC
   clear hd
   have HCD : Hid ((fun d0 => chk d0) d = chk d) := rfl
   obtain ⟨cd, hcd⟩ : ∃ cd, cd = chk d := ⟨_, rfl⟩
   rw [← hcd] at HS HLK
   clear hcd HCD
   obtain ⟨s1, n1⟩ := d
   have e0 : wr.cell? ⟨b, f + i * 2, none⟩ = some (.string s1) := HCC.out 0 (by omega)
   have e1 : wr.cell? ⟨b, f + i * 2 + 1, none⟩ = some (.int .i64 n1) := HCC.out 1 (by omega)
   have hc := HK.out.c
   have hKs := HK.out.lt
   have hbK : b ≠ K := by omega
   generalize hee : fstE a1 (frst chk (L.take i)) = ee at HK HST hc
   have HEE : Hid (fstE a1 (frst chk (L.take i)) = ee) := hee
   clear hee
   by_cases h0 : ee = 0
   ·subst h0
    have hs0 : (wr.alloc (.cells #[.string ⟨#[]⟩, .int .i64 0] 124)).heap.size = wr.heap.size + 1 := by simp
    have hKn : K ≠ wr.heap.size := by omega
    have hbn : b ≠ wr.heap.size := by
     have := HB.out.size
     have h2 := HK.out.lt
     omega
    have HBA : Hid (Below N w0 (wr.alloc (.cells #[.string s1, .int .i64 n1] 124))) := HB.out.alloc (by have := HB.out.size; omega) _
    have HKA : Hid (CK (wr.alloc (.cells #[.string s1, .int .i64 n1] 124)) K 0) := HK.out.under ((Below.refl _ _).alloc (Nat.le_refl _) _)
    have hKn2 : wr.heap.size ≠ K := fun e => hKn e.symm
    have HSW : Hid (N ≤ ((wr.alloc (.cells #[.string s1, .int .i64 n1] 124))).heap.size) := by
     have h4 := HK.out.lt
     unfold Hid
     simp
     omega
    go_wp2_with fail
    refine (HLK.out _ _ HKA.out HBA.out HSW.out).mono ?_
    rintro r w2 ⟨rfl, hk2, hb2⟩
    have HK2 : Hid (CK w2 K (fstE a1 (frst chk (L.take (i + 1))))) := by
     unfold Hid
     rw [HS.out, ← fstE_assoc, HEE.out]
     exact hk2
    have HB2 : Hid (Chg K w w2) := HCg.out.trans ((Chg.of_below ((Below.refl _ _).alloc (Nat.le_refl _) _)).trans hb2)
    clear hk2 hb2 HK HB HCg HLK HCC HS HST HEE HKA HBA HSW
    go_wp2
    go_roundw
    case rel => exact ⟨i + 1, by go_num, by omega, HK2, HB2⟩
    case measure => simp [intOf]; omega
   ·have hb0 : (ee == 0) = false := by rw [beq_eq_false_iff_ne]; exact h0
    have hn0 : (ee != 0) = true := by rw [bne, hb0]; rfl
    have HH0 : Hid (ee ≠ 0) := h0
    have hKn : K ≠ wr.heap.size := by omega
    have hKn2 : wr.heap.size ≠ K := by omega
    have HBA : Hid (Below N w0 (wr.alloc (.cells #[.string s1, .int .i64 n1] 124))) := HB.out.alloc (by have := HB.out.size; omega) _
    have HKA : Hid (CK (wr.alloc (.cells #[.string s1, .int .i64 n1] 124)) K ee) := HK.out.under ((Below.refl _ _).alloc (Nat.le_refl _) _)
    clear h0
    go_wp2
    go_end0
    exact ⟨rfl, by rw [HE.out, HST.out HH0.out]; exact HKA.out, HCg.out.trans (Chg.of_below ((Below.refl _ _).alloc (Nat.le_refl _) _))⟩
  ·have HKF : Hid (CK wr K (fstE a1 (frst chk L))) := by
    have h1 := HK.out
    rw [List.take_of_length_le (by rw [HL.out]; omega)] at h1
    exact h1
   clear HK
   go_wp2
   go_end0
   exact ⟨rfl, by rw [HE.out]; exact HKF.out, HCg.out⟩
theorem each_ele (K N : Nat) (w0 w : World) (most a : Int) (chk : EleD → Int) (L : List EleD) (o : Option Addr) (n cap : Nat) (hn : L.length = n) (hcap : n ≤ cap) (hmax : cap ≤ maxLen)
  (hr : L = [] ∨ ∃ b f, o = some ⟨b, f, none⟩ ∧ b < N ∧ ∀ i (h : i < L.length) r, r < 2 → w0.cell? ⟨b, f + i * 2 + r, none⟩ = (EleD.cells L[i])[r]?)
  (h : CK w K a) (hb : Below N w0 w) (hNK : N ≤ K) (hNw : N ≤ w.heap.size)
  (HLOOK : Hid (∀ d ∈ L, ∀ w' a', CK w' K a' → Below N w0 w' → N ≤ w'.heap.size → Calls Tryz.prog 94 #[.pointer (some ⟨K, 0, none⟩), .agg #[.int .i64 d.a, .slice d.f.o d.f.n d.f.cap]] w' (CkOut K w' (fstE a' (chk d))))) :
  Calls Tryz.prog 93 #[.pointer (some ⟨K, 0, none⟩), .slice o n cap, .int .i64 most, .func (.func 94) #[.pointer (some ⟨K, 0, none⟩)] #[]] w (CkOut K w (fstE a (chkL most chk L))) := by
 unfold maxLen at hmax
 have HN : Hid (type_of% (need_any K w a 2 (decide ((n : Int) ≤ most)) h)) := need_any K w a 2 (decide ((n : Int) ≤ most)) h
 have HBW : Hid (Below N w0 w) := hb
 have HL : Hid (L.length = n) := hn
 have HSZ : Hid (N ≤ w.heap.size) := hNw
 rcases hr with rfl | ⟨b, f, rfl, hbN, hcells⟩
 ·have hn0 : n = 0 := by rw [← hn]; rfl
  subst hn0
  clear h hb hn hNw
  have HE0 : Hid (fstE a (chkL most chk []) = fstE a (okE (decide (((0 : Nat) : Int) ≤ most)) 2)) := by
   unfold Hid chkL frst
   rw [fstE_right]
   rfl
  go_enter Tryz.func93, Tryz.ntmps93
  go_wp2_with fail
  refine HN.out.mono ?_
  rintro r w1 ⟨rfl, hk1, hb1⟩
  rw [← HE0.out] at hk1
  have HK1 : Hid (type_of% hk1) := hk1
  have HB1 : Hid (Chg K w w1) := hb1
  clear hk1 hb1 HN
  go_wp2
  go_loopw [18] (fun iv wr => iv = .int .i64 0 ∧ Hid (CK wr K (fstE a (chkL most chk []))) ∧ Hid (Chg K w wr)) (fun _ _ => 0)
  case atStart => exact ⟨rfl, HK1, HB1⟩
  case round =>
   obtain ⟨rfl, HK, HB⟩ := hrel
   go_wp2
   go_end0
   exact ⟨rfl, HK.out, HB.out⟩
 have HR : Hid (type_of% hcells) := hcells
 clear h hb hcells hn hNw
 go_enter Tryz.func93, Tryz.ntmps93
 go_wp2_with fail
 refine HN.out.mono ?_
 rintro r w1 ⟨rfl, hk1, hb1⟩
 obtain ⟨a1, ha1⟩ : ∃ a1, a1 = fstE a (okE (decide ((n : Int) ≤ most)) 2) := ⟨_, rfl⟩
 rw [← ha1] at hk1
 have HE : Hid (fstE a (chkL most chk L) = fstE a1 (frst chk L)) := by
  unfold Hid chkL
  rw [ha1, fstE_assoc, HL.out]
 have HK1 : Hid (CK w1 K a1) := hk1
 have HB1 : Hid (Chg K w w1) := hb1
 clear hk1 hb1 HN ha1
 go_wp2
 go_loopw [18] (fun iv wr => ∃ i : Nat, iv = .int .i64 (i : Int) ∧ i ≤ n ∧ Hid (CK wr K (fstE a1 (frst chk (L.take i)))) ∧ Hid (Chg K w wr)) (fun iv _ => n - (intOf iv).toNat)
 case atStart => exact ⟨0, rfl, by omega, by unfold Hid; rw [List.take_zero, frst, fstE_right]; exact HK1.out, HB1⟩
 case round =>
  obtain ⟨i, rfl, hin, HK, HCg⟩ := hrel
  have HB : Hid (Below N w0 wr) := below_chg HBW.out HCg.out hNK HSZ.out
  clear HK1 HB1
  by_cases hlt : i < n
  ·have hiL : i < L.length := by rw [HL.out]; exact hlt
   have hi0 : (0 : Int) ≤ (i : Int) := by omega
   have hi1 : (i : Int) < (n : Int) := by omega
   have HS : Hid (frst chk (L.take (i + 1)) = fstE (frst chk (L.take i)) (chk L[i])) := frst_snoc chk L i hiL
   have HST : Hid (fstE a1 (frst chk (L.take i)) ≠ 0 → fstE a1 (frst chk L) = fstE a1 (frst chk (L.take i))) := frst_stop a1 chk L i
   have HLK : Hid (type_of% (HLOOK.out L[i] (List.getElem_mem hiL))) := HLOOK.out L[i] (List.getElem_mem hiL)
   have HCC : Hid (∀ r, r < 2 → wr.cell? ⟨b, f + i * 2 + r, none⟩ = (EleD.cells L[i])[r]?) := fun r hr => by
    rw [HB.out.cell (p := ⟨b, f + i * 2 + r, none⟩) hbN]
    exact HR.out i hiL r hr
   obtain ⟨d, hd⟩ : ∃ d, d = L[i] := ⟨_, rfl⟩
   rw [← hd] at HS HLK HCC
   clear hd
   have HCD : Hid ((fun d0 => chk d0) d = chk d) := rfl
   obtain ⟨cd, hcd⟩ : ∃ cd, cd = chk d := ⟨_, rfl⟩
   rw [← hcd] at HS HLK
   clear hcd HCD
   obtain ⟨y1, ⟨o2, n2, c2, x2⟩⟩ := d
   have e0 : wr.cell? ⟨b, f + i * 2, none⟩ = some (.int .i64 y1) := HCC.out 0 (by omega)
   have e1 : wr.cell? ⟨b, f + i * 2 + 1, none⟩ = some (.slice o2 n2 c2) := HCC.out 1 (by omega)
   have hc := HK.out.c
   have hKs := HK.out.lt
   have hbK : b ≠ K := by omega
   generalize hee : fstE a1 (frst chk (L.take i)) = ee at HK HST hc
   have HEE : Hid (fstE a1 (frst chk (L.take i)) = ee) := hee
   clear hee
   by_cases h0 : ee = 0
   ·subst h0
    have hs0 : (wr.alloc (.cells #[.int .i64 0, .slice none 0 0] 128)).heap.size = wr.heap.size + 1 := by simp
    have hKn : K ≠ wr.heap.size := by omega
    have hbn : b ≠ wr.heap.size := by
     have := HB.out.size
     have h2 := HK.out.lt
     omega
    have HBA : Hid (Below N w0 (wr.alloc (.cells #[.int .i64 y1, .slice o2 n2 c2] 128))) := HB.out.alloc (by have := HB.out.size; omega) _
    have HKA : Hid (CK (wr.alloc (.cells #[.int .i64 y1, .slice o2 n2 c2] 128)) K 0) := HK.out.under ((Below.refl _ _).alloc (Nat.le_refl _) _)
    have hKn2 : wr.heap.size ≠ K := fun e => hKn e.symm
    have HSW : Hid (N ≤ ((wr.alloc (.cells #[.int .i64 y1, .slice o2 n2 c2] 128))).heap.size) := by
     have h4 := HK.out.lt
     unfold Hid
     simp
     omega
    go_wp2_with fail
    refine (HLK.out _ _ HKA.out HBA.out HSW.out).mono ?_
    rintro r w2 ⟨rfl, hk2, hb2⟩
    have HK2 : Hid (CK w2 K (fstE a1 (frst chk (L.take (i + 1))))) := by
     unfold Hid
     rw [HS.out, ← fstE_assoc, HEE.out]
     exact hk2
    have HB2 : Hid (Chg K w w2) := HCg.out.trans ((Chg.of_below ((Below.refl _ _).alloc (Nat.le_refl _) _)).trans hb2)
    clear hk2 hb2 HK HB HCg HLK HCC HS HST HEE HKA HBA HSW
    go_wp2
    go_roundw
    case rel => exact ⟨i + 1, by go_num, by omega, HK2, HB2⟩
    case measure => simp [intOf]; omega
   ·have hb0 : (ee == 0) = false := by rw [beq_eq_false_iff_ne]; exact h0
    have hn0 : (ee != 0) = true := by rw [bne, hb0]; rfl
    have HH0 : Hid (ee ≠ 0) := h0
    have hKn : K ≠ wr.heap.size := by omega
    have hKn2 : wr.heap.size ≠ K := by omega
    have HBA : Hid (Below N w0 (wr.alloc (.cells #[.int .i64 y1, .slice o2 n2 c2] 128))) := HB.out.alloc (by have := HB.out.size; omega) _
    have HKA : Hid (CK (wr.alloc (.cells #[.int .i64 y1, .slice o2 n2 c2] 128)) K ee) := HK.out.under ((Below.refl _ _).alloc (Nat.le_refl _) _)
    clear h0
    go_wp2
    go_end0
    exact ⟨rfl, by rw [HE.out, HST.out HH0.out]; exact HKA.out, HCg.out.trans (Chg.of_below ((Below.refl _ _).alloc (Nat.le_refl _) _))⟩
  ·have HKF : Hid (CK wr K (fstE a1 (frst chk L))) := by
    have h1 := HK.out
    rw [List.take_of_length_le (by rw [HL.out]; omega)] at h1
    exact h1
   clear HK
   go_wp2
   go_end0
   exact ⟨rfl, by rw [HE.out]; exact HKF.out, HCg.out⟩
theorem each_dat (K N : Nat) (w0 w : World) (most a : Int) (chk : DatD → Int) (L : List DatD) (o : Option Addr) (n cap : Nat) (hn : L.length = n) (hcap : n ≤ cap) (hmax : cap ≤ maxLen)
  (hr : L = [] ∨ ∃ b f, o = some ⟨b, f, none⟩ ∧ b < N ∧ ∀ i (h : i < L.length) r, r < 2 → w0.cell? ⟨b, f + i * 2 + r, none⟩ = (DatD.cells L[i])[r]?)
  (h : CK w K a) (hb : Below N w0 w) (hNK : N ≤ K) (hNw : N ≤ w.heap.size)
  (HLOOK : Hid (∀ d ∈ L, ∀ w' a', CK w' K a' → Below N w0 w' → N ≤ w'.heap.size → Calls Tryz.prog 96 #[.pointer (some ⟨K, 0, none⟩), .agg #[.int .i64 d.a, .string d.s]] w' (CkOut K w' (fstE a' (chk d))))) :
  Calls Tryz.prog 95 #[.pointer (some ⟨K, 0, none⟩), .slice o n cap, .int .i64 most, .func (.func 96) #[.pointer (some ⟨K, 0, none⟩)] #[]] w (CkOut K w (fstE a (chkL most chk L))) := by
 unfold maxLen at hmax
 have HN : Hid (type_of% (need_any K w a 2 (decide ((n : Int) ≤ most)) h)) := need_any K w a 2 (decide ((n : Int) ≤ most)) h
 have HBW : Hid (Below N w0 w) := hb
 have HL : Hid (L.length = n) := hn
 have HSZ : Hid (N ≤ w.heap.size) := hNw
 rcases hr with rfl | ⟨b, f, rfl, hbN, hcells⟩
 ·have hn0 : n = 0 := by rw [← hn]; rfl
  subst hn0
  clear h hb hn hNw
  have HE0 : Hid (fstE a (chkL most chk []) = fstE a (okE (decide (((0 : Nat) : Int) ≤ most)) 2)) := by
   unfold Hid chkL frst
   rw [fstE_right]
   rfl
  go_enter Tryz.func95, Tryz.ntmps95
  go_wp2_with fail
  refine HN.out.mono ?_
  rintro r w1 ⟨rfl, hk1, hb1⟩
  rw [← HE0.out] at hk1
  have HK1 : Hid (type_of% hk1) := hk1
  have HB1 : Hid (Chg K w w1) := hb1
  clear hk1 hb1 HN
  go_wp2
  go_loopw [18] (fun iv wr => iv = .int .i64 0 ∧ Hid (CK wr K (fstE a (chkL most chk []))) ∧ Hid (Chg K w wr)) (fun _ _ => 0)
  case atStart => exact ⟨rfl, HK1, HB1⟩
  case round =>
   obtain ⟨rfl, HK, HB⟩ := hrel
   go_wp2
   go_end0
   exact ⟨rfl, HK.out, HB.out⟩
 have HR : Hid (type_of% hcells) := hcells
 clear h hb hcells hn hNw
 go_enter Tryz.func95, Tryz.ntmps95
 go_wp2_with fail
 refine HN.out.mono ?_
 rintro r w1 ⟨rfl, hk1, hb1⟩
 obtain ⟨a1, ha1⟩ : ∃ a1, a1 = fstE a (okE (decide ((n : Int) ≤ most)) 2) := ⟨_, rfl⟩
 rw [← ha1] at hk1
 have HE : Hid (fstE a (chkL most chk L) = fstE a1 (frst chk L)) := by
  unfold Hid chkL
  rw [ha1, fstE_assoc, HL.out]
 have HK1 : Hid (CK w1 K a1) := hk1
 have HB1 : Hid (Chg K w w1) := hb1
 clear hk1 hb1 HN ha1
 go_wp2
 go_loopw [18] (fun iv wr => ∃ i : Nat, iv = .int .i64 (i : Int) ∧ i ≤ n ∧ Hid (CK wr K (fstE a1 (frst chk (L.take i)))) ∧ Hid (Chg K w wr)) (fun iv _ => n - (intOf iv).toNat)
 case atStart => exact ⟨0, rfl, by omega, by unfold Hid; rw [List.take_zero, frst, fstE_right]; exact HK1.out, HB1⟩
 case round =>
  obtain ⟨i, rfl, hin, HK, HCg⟩ := hrel
  have HB : Hid (Below N w0 wr) := below_chg HBW.out HCg.out hNK HSZ.out
  clear HK1 HB1
  by_cases hlt : i < n
  ·have hiL : i < L.length := by rw [HL.out]; exact hlt
   have hi0 : (0 : Int) ≤ (i : Int) := by omega
   have hi1 : (i : Int) < (n : Int) := by omega
   have HS : Hid (frst chk (L.take (i + 1)) = fstE (frst chk (L.take i)) (chk L[i])) := frst_snoc chk L i hiL
   have HST : Hid (fstE a1 (frst chk (L.take i)) ≠ 0 → fstE a1 (frst chk L) = fstE a1 (frst chk (L.take i))) := frst_stop a1 chk L i
   have HLK : Hid (type_of% (HLOOK.out L[i] (List.getElem_mem hiL))) := HLOOK.out L[i] (List.getElem_mem hiL)
   have HCC : Hid (∀ r, r < 2 → wr.cell? ⟨b, f + i * 2 + r, none⟩ = (DatD.cells L[i])[r]?) := fun r hr => by
    rw [HB.out.cell (p := ⟨b, f + i * 2 + r, none⟩) hbN]
    exact HR.out i hiL r hr
   obtain ⟨d, hd⟩ : ∃ d, d = L[i] := ⟨_, rfl⟩
   rw [← hd] at HS HLK HCC
   clear hd
   have HCD : Hid ((fun d0 => chk d0) d = chk d) := rfl
   obtain ⟨cd, hcd⟩ : ∃ cd, cd = chk d := ⟨_, rfl⟩
   rw [← hcd] at HS HLK
   clear hcd HCD
   obtain ⟨y1, s1⟩ := d
   have e0 : wr.cell? ⟨b, f + i * 2, none⟩ = some (.int .i64 y1) := HCC.out 0 (by omega)
   have e1 : wr.cell? ⟨b, f + i * 2 + 1, none⟩ = some (.string s1) := HCC.out 1 (by omega)
   have hc := HK.out.c
   have hKs := HK.out.lt
   have hbK : b ≠ K := by omega
   generalize hee : fstE a1 (frst chk (L.take i)) = ee at HK HST hc
   have HEE : Hid (fstE a1 (frst chk (L.take i)) = ee) := hee
   clear hee
   by_cases h0 : ee = 0
   ·subst h0
    have hs0 : (wr.alloc (.cells #[.int .i64 0, .string ⟨#[]⟩] 160)).heap.size = wr.heap.size + 1 := by simp
    have hKn : K ≠ wr.heap.size := by omega
    have hbn : b ≠ wr.heap.size := by
     have := HB.out.size
     have h2 := HK.out.lt
     omega
    have HBA : Hid (Below N w0 (wr.alloc (.cells #[.int .i64 y1, .string s1] 160))) := HB.out.alloc (by have := HB.out.size; omega) _
    have HKA : Hid (CK (wr.alloc (.cells #[.int .i64 y1, .string s1] 160)) K 0) := HK.out.under ((Below.refl _ _).alloc (Nat.le_refl _) _)
    have hKn2 : wr.heap.size ≠ K := fun e => hKn e.symm
    have HSW : Hid (N ≤ ((wr.alloc (.cells #[.int .i64 y1, .string s1] 160))).heap.size) := by
     have h4 := HK.out.lt
     unfold Hid
     simp
     omega
    go_wp2_with fail
    refine (HLK.out _ _ HKA.out HBA.out HSW.out).mono ?_
    rintro r w2 ⟨rfl, hk2, hb2⟩
    have HK2 : Hid (CK w2 K (fstE a1 (frst chk (L.take (i + 1))))) := by
     unfold Hid
     rw [HS.out, ← fstE_assoc, HEE.out]
     exact hk2
    have HB2 : Hid (Chg K w w2) := HCg.out.trans ((Chg.of_below ((Below.refl _ _).alloc (Nat.le_refl _) _)).trans hb2)
    clear hk2 hb2 HK HB HCg HLK HCC HS HST HEE HKA HBA HSW
    go_wp2
    go_roundw
    case rel => exact ⟨i + 1, by go_num, by omega, HK2, HB2⟩
    case measure => simp [intOf]; omega
   ·have hb0 : (ee == 0) = false := by rw [beq_eq_false_iff_ne]; exact h0
    have hn0 : (ee != 0) = true := by rw [bne, hb0]; rfl
    have HH0 : Hid (ee ≠ 0) := h0
    have hKn : K ≠ wr.heap.size := by omega
    have hKn2 : wr.heap.size ≠ K := by omega
    have HBA : Hid (Below N w0 (wr.alloc (.cells #[.int .i64 y1, .string s1] 160))) := HB.out.alloc (by have := HB.out.size; omega) _
    have HKA : Hid (CK (wr.alloc (.cells #[.int .i64 y1, .string s1] 160)) K ee) := HK.out.under ((Below.refl _ _).alloc (Nat.le_refl _) _)
    clear h0
    go_wp2
    go_end0
    exact ⟨rfl, by rw [HE.out, HST.out HH0.out]; exact HKA.out, HCg.out.trans (Chg.of_below ((Below.refl _ _).alloc (Nat.le_refl _) _))⟩
  ·have HKF : Hid (CK wr K (fstE a1 (frst chk L))) := by
    have h1 := HK.out
    rw [List.take_of_length_le (by rw [HL.out]; omega)] at h1
    exact h1
   clear HK
   go_wp2
   go_end0
   exact ⟨rfl, by rw [HE.out]; exact HKF.out, HCg.out⟩
theorem each_kin (K N : Nat) (w0 w : World) (most a : Int) (chk : Int → Int) (L : List Int) (o : Option Addr) (n cap : Nat) (hn : L.length = n) (hcap : n ≤ cap) (hmax : cap ≤ maxLen)
  (hr : L = [] ∨ ∃ b f, o = some ⟨b, f, none⟩ ∧ b < N ∧ ∀ i (h : i < L.length) r, r < 1 → w0.cell? ⟨b, f + i * 1 + r, none⟩ = ([Value.int .u8 L[i]])[r]?)
  (h : CK w K a) (hb : Below N w0 w) (hNK : N ≤ K) (hNw : N ≤ w.heap.size)
  (HLOOK : Hid (∀ d ∈ L, ∀ w' a', CK w' K a' → Below N w0 w' → N ≤ w'.heap.size → Calls Tryz.prog 141 #[.pointer (some ⟨K, 0, none⟩), .int .u8 d] w' (CkOut K w' (fstE a' (chk d))))) :
  Calls Tryz.prog 140 #[.pointer (some ⟨K, 0, none⟩), .slice o n cap, .int .i64 most, .func (.func 141) #[.pointer (some ⟨K, 0, none⟩)] #[]] w (CkOut K w (fstE a (chkL most chk L))) := by
 unfold maxLen at hmax
 have HN : Hid (type_of% (need_any K w a 2 (decide ((n : Int) ≤ most)) h)) := need_any K w a 2 (decide ((n : Int) ≤ most)) h
 have HBW : Hid (Below N w0 w) := hb
 have HL : Hid (L.length = n) := hn
 have HSZ : Hid (N ≤ w.heap.size) := hNw
 rcases hr with rfl | ⟨b, f, rfl, hbN, hcells⟩
 ·have hn0 : n = 0 := by rw [← hn]; rfl
  subst hn0
  clear h hb hn hNw
  have HE0 : Hid (fstE a (chkL most chk []) = fstE a (okE (decide (((0 : Nat) : Int) ≤ most)) 2)) := by
   unfold Hid chkL frst
   rw [fstE_right]
   rfl
  go_enter Tryz.func140, Tryz.ntmps140
  go_wp2_with fail
  refine HN.out.mono ?_
  rintro r w1 ⟨rfl, hk1, hb1⟩
  rw [← HE0.out] at hk1
  have HK1 : Hid (type_of% hk1) := hk1
  have HB1 : Hid (Chg K w w1) := hb1
  clear hk1 hb1 HN
  go_wp2
  go_loopw [18] (fun iv wr => iv = .int .i64 0 ∧ Hid (CK wr K (fstE a (chkL most chk []))) ∧ Hid (Chg K w wr)) (fun _ _ => 0)
  case atStart => exact ⟨rfl, HK1, HB1⟩
  case round =>
   obtain ⟨rfl, HK, HB⟩ := hrel
   go_wp2
   go_end0
   exact ⟨rfl, HK.out, HB.out⟩
 have HR : Hid (type_of% hcells) := hcells
 clear h hb hcells hn hNw
 go_enter Tryz.func140, Tryz.ntmps140
 go_wp2_with fail
 refine HN.out.mono ?_
 rintro r w1 ⟨rfl, hk1, hb1⟩
 obtain ⟨a1, ha1⟩ : ∃ a1, a1 = fstE a (okE (decide ((n : Int) ≤ most)) 2) := ⟨_, rfl⟩
 rw [← ha1] at hk1
 have HE : Hid (fstE a (chkL most chk L) = fstE a1 (frst chk L)) := by
  unfold Hid chkL
  rw [ha1, fstE_assoc, HL.out]
 have HK1 : Hid (CK w1 K a1) := hk1
 have HB1 : Hid (Chg K w w1) := hb1
 clear hk1 hb1 HN ha1
 go_wp2
 go_loopw [18] (fun iv wr => ∃ i : Nat, iv = .int .i64 (i : Int) ∧ i ≤ n ∧ Hid (CK wr K (fstE a1 (frst chk (L.take i)))) ∧ Hid (Chg K w wr)) (fun iv _ => n - (intOf iv).toNat)
 case atStart => exact ⟨0, rfl, by omega, by unfold Hid; rw [List.take_zero, frst, fstE_right]; exact HK1.out, HB1⟩
 case round =>
  obtain ⟨i, rfl, hin, HK, HCg⟩ := hrel
  have HB : Hid (Below N w0 wr) := below_chg HBW.out HCg.out hNK HSZ.out
  clear HK1 HB1
  by_cases hlt : i < n
  ·have hiL : i < L.length := by rw [HL.out]; exact hlt
   have hi0 : (0 : Int) ≤ (i : Int) := by omega
   have hi1 : (i : Int) < (n : Int) := by omega
   have HS : Hid (frst chk (L.take (i + 1)) = fstE (frst chk (L.take i)) (chk L[i])) := frst_snoc chk L i hiL
   have HST : Hid (fstE a1 (frst chk (L.take i)) ≠ 0 → fstE a1 (frst chk L) = fstE a1 (frst chk (L.take i))) := frst_stop a1 chk L i
   have HLK : Hid (type_of% (HLOOK.out L[i] (List.getElem_mem hiL))) := HLOOK.out L[i] (List.getElem_mem hiL)
   have HCC : Hid (∀ r, r < 1 → wr.cell? ⟨b, f + i * 1 + r, none⟩ = ([Value.int .u8 L[i]])[r]?) := fun r hr => by
    rw [HB.out.cell (p := ⟨b, f + i * 1 + r, none⟩) hbN]
    exact HR.out i hiL r hr
   obtain ⟨d, hd⟩ : ∃ d, d = L[i] := ⟨_, rfl⟩
   rw [← hd] at HS HLK HCC
   clear hd
   have e0 : wr.cell? ⟨b, f + i * 1, none⟩ = some (.int .u8 d) := HCC.out 0 (by omega)
   have HD1 : Hid (f + i * 1 = f + i) := by unfold Hid; omega
   rw [HD1.out] at e0
   have hc := HK.out.c
   have hKs := HK.out.lt
   have hbK : b ≠ K := by omega
   generalize hee : fstE a1 (frst chk (L.take i)) = ee at HK HST hc
   have HEE : Hid (fstE a1 (frst chk (L.take i)) = ee) := hee
   clear hee
   by_cases h0 : ee = 0
   ·subst h0
    go_wp2_with fail
    refine (HLK.out _ _ HK.out HB.out (by have := HB.out.size; have h2 := HK.out.lt; omega)).mono ?_
    rintro r w2 ⟨rfl, hk2, hb2⟩
    have HK2 : Hid (CK w2 K (fstE a1 (frst chk (L.take (i + 1))))) := by
     unfold Hid
     rw [HS.out, ← fstE_assoc, HEE.out]
     exact hk2
    have HB2 : Hid (Chg K w w2) := HCg.out.trans hb2
    clear hk2 hb2 HK HB HCg HLK HCC HS HST HEE
    go_wp2
    go_roundw
    case rel => exact ⟨i + 1, by go_num, by omega, HK2, HB2⟩
    case measure => simp [intOf]; omega
   ·have hb0 : (ee == 0) = false := by rw [beq_eq_false_iff_ne]; exact h0
    have hn0 : (ee != 0) = true := by rw [bne, hb0]; rfl
    have HH0 : Hid (ee ≠ 0) := h0
    clear h0
    go_wp2
    go_end0
    exact ⟨rfl, by rw [HE.out, HST.out HH0.out]; exact HK.out, HCg.out⟩
  ·have HKF : Hid (CK wr K (fstE a1 (frst chk L))) := by
    have h1 := HK.out
    rw [List.take_of_length_le (by rw [HL.out]; omega)] at h1
    exact h1
   clear HK
   go_wp2
   go_end0
   exact ⟨rfl, by rw [HE.out]; exact HKF.out, HCg.out⟩
theorem each_int (K N : Nat) (w0 w : World) (most a : Int) (chk : Int → Int) (L : List Int) (o : Option Addr) (n cap : Nat) (hn : L.length = n) (hcap : n ≤ cap) (hmax : cap ≤ maxLen)
  (hr : L = [] ∨ ∃ b f, o = some ⟨b, f, none⟩ ∧ b < N ∧ ∀ i (h : i < L.length) r, r < 1 → w0.cell? ⟨b, f + i * 1 + r, none⟩ = ([Value.int .i64 L[i]])[r]?)
  (h : CK w K a) (hb : Below N w0 w) (hNK : N ≤ K) (hNw : N ≤ w.heap.size)
  (HLOOK : Hid (∀ d ∈ L, ∀ w' a', CK w' K a' → Below N w0 w' → N ≤ w'.heap.size → Calls Tryz.prog 92 #[.pointer (some ⟨K, 0, none⟩), .int .i64 d] w' (CkOut K w' (fstE a' (chk d))))) :
  Calls Tryz.prog 144 #[.pointer (some ⟨K, 0, none⟩), .slice o n cap, .int .i64 most, .func (.func 92) #[.pointer (some ⟨K, 0, none⟩)] #[]] w (CkOut K w (fstE a (chkL most chk L))) := by
 unfold maxLen at hmax
 have HN : Hid (type_of% (need_any K w a 2 (decide ((n : Int) ≤ most)) h)) := need_any K w a 2 (decide ((n : Int) ≤ most)) h
 have HBW : Hid (Below N w0 w) := hb
 have HL : Hid (L.length = n) := hn
 have HSZ : Hid (N ≤ w.heap.size) := hNw
 rcases hr with rfl | ⟨b, f, rfl, hbN, hcells⟩
 ·have hn0 : n = 0 := by rw [← hn]; rfl
  subst hn0
  clear h hb hn hNw
  have HE0 : Hid (fstE a (chkL most chk []) = fstE a (okE (decide (((0 : Nat) : Int) ≤ most)) 2)) := by
   unfold Hid chkL frst
   rw [fstE_right]
   rfl
  go_enter Tryz.func144, Tryz.ntmps144
  go_wp2_with fail
  refine HN.out.mono ?_
  rintro r w1 ⟨rfl, hk1, hb1⟩
  rw [← HE0.out] at hk1
  have HK1 : Hid (type_of% hk1) := hk1
  have HB1 : Hid (Chg K w w1) := hb1
  clear hk1 hb1 HN
  go_wp2
  go_loopw [18] (fun iv wr => iv = .int .i64 0 ∧ Hid (CK wr K (fstE a (chkL most chk []))) ∧ Hid (Chg K w wr)) (fun _ _ => 0)
  case atStart => exact ⟨rfl, HK1, HB1⟩
  case round =>
   obtain ⟨rfl, HK, HB⟩ := hrel
   go_wp2
   go_end0
   exact ⟨rfl, HK.out, HB.out⟩
 have HR : Hid (type_of% hcells) := hcells
 clear h hb hcells hn hNw
 go_enter Tryz.func144, Tryz.ntmps144
 go_wp2_with fail
 refine HN.out.mono ?_
 rintro r w1 ⟨rfl, hk1, hb1⟩
 obtain ⟨a1, ha1⟩ : ∃ a1, a1 = fstE a (okE (decide ((n : Int) ≤ most)) 2) := ⟨_, rfl⟩
 rw [← ha1] at hk1
 have HE : Hid (fstE a (chkL most chk L) = fstE a1 (frst chk L)) := by
  unfold Hid chkL
  rw [ha1, fstE_assoc, HL.out]
 have HK1 : Hid (CK w1 K a1) := hk1
 have HB1 : Hid (Chg K w w1) := hb1
 clear hk1 hb1 HN ha1
 go_wp2
 go_loopw [18] (fun iv wr => ∃ i : Nat, iv = .int .i64 (i : Int) ∧ i ≤ n ∧ Hid (CK wr K (fstE a1 (frst chk (L.take i)))) ∧ Hid (Chg K w wr)) (fun iv _ => n - (intOf iv).toNat)
 case atStart => exact ⟨0, rfl, by omega, by unfold Hid; rw [List.take_zero, frst, fstE_right]; exact HK1.out, HB1⟩
 case round =>
  obtain ⟨i, rfl, hin, HK, HCg⟩ := hrel
  have HB : Hid (Below N w0 wr) := below_chg HBW.out HCg.out hNK HSZ.out
  clear HK1 HB1
  by_cases hlt : i < n
  ·have hiL : i < L.length := by rw [HL.out]; exact hlt
   have hi0 : (0 : Int) ≤ (i : Int) := by omega
   have hi1 : (i : Int) < (n : Int) := by omega
   have HS : Hid (frst chk (L.take (i + 1)) = fstE (frst chk (L.take i)) (chk L[i])) := frst_snoc chk L i hiL
   have HST : Hid (fstE a1 (frst chk (L.take i)) ≠ 0 → fstE a1 (frst chk L) = fstE a1 (frst chk (L.take i))) := frst_stop a1 chk L i
   have HLK : Hid (type_of% (HLOOK.out L[i] (List.getElem_mem hiL))) := HLOOK.out L[i] (List.getElem_mem hiL)
   have HCC : Hid (∀ r, r < 1 → wr.cell? ⟨b, f + i * 1 + r, none⟩ = ([Value.int .i64 L[i]])[r]?) := fun r hr => by
    rw [HB.out.cell (p := ⟨b, f + i * 1 + r, none⟩) hbN]
    exact HR.out i hiL r hr
   obtain ⟨d, hd⟩ : ∃ d, d = L[i] := ⟨_, rfl⟩
   rw [← hd] at HS HLK HCC
   clear hd
   have e0 : wr.cell? ⟨b, f + i * 1, none⟩ = some (.int .i64 d) := HCC.out 0 (by omega)
   have HD1 : Hid (f + i * 1 = f + i) := by unfold Hid; omega
   rw [HD1.out] at e0
   have hc := HK.out.c
   have hKs := HK.out.lt
   have hbK : b ≠ K := by omega
   generalize hee : fstE a1 (frst chk (L.take i)) = ee at HK HST hc
   have HEE : Hid (fstE a1 (frst chk (L.take i)) = ee) := hee
   clear hee
   by_cases h0 : ee = 0
   ·subst h0
    go_wp2_with fail
    refine (HLK.out _ _ HK.out HB.out (by have := HB.out.size; have h2 := HK.out.lt; omega)).mono ?_
    rintro r w2 ⟨rfl, hk2, hb2⟩
    have HK2 : Hid (CK w2 K (fstE a1 (frst chk (L.take (i + 1))))) := by
     unfold Hid
     rw [HS.out, ← fstE_assoc, HEE.out]
     exact hk2
    have HB2 : Hid (Chg K w w2) := HCg.out.trans hb2
    clear hk2 hb2 HK HB HCg HLK HCC HS HST HEE
    go_wp2
    go_roundw
    case rel => exact ⟨i + 1, by go_num, by omega, HK2, HB2⟩
    case measure => simp [intOf]; omega
   ·have hb0 : (ee == 0) = false := by rw [beq_eq_false_iff_ne]; exact h0
    have hn0 : (ee != 0) = true := by rw [bne, hb0]; rfl
    have HH0 : Hid (ee ≠ 0) := h0
    clear h0
    go_wp2
    go_end0
    exact ⟨rfl, by rw [HE.out, HST.out HH0.out]; exact HK.out, HCg.out⟩
  ·have HKF : Hid (CK wr K (fstE a1 (frst chk L))) := by
    have h1 := HK.out
    rw [List.take_of_length_le (by rw [HL.out]; omega)] at h1
    exact h1
   clear HK
   go_wp2
   go_end0
   exact ⟨rfl, by rw [HE.out]; exact HKF.out, HCg.out⟩
end Go.Proofs.YtgleeocebnjliaaGreatDoor
