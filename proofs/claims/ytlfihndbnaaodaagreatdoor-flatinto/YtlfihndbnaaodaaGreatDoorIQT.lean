/-
 The reader of modules: lists of whatever parts.
 The reader of modules: its parts.
 What Check says of the parts of a module; the checker, and how it goes through lists.
 What the checker's methods do; Check.
-/
import Derived.Test.YtlfihndbnaaodaaGreatDoorIQX
import Derived.Deep.AppendLies
import Derived.Test.YtlfihndbnaaodaaGreatDoorIQM
import Derived.WalkLawsBesides
set_option maxHeartbeats 4000000
set_option maxRecDepth 1000000
namespace Go.Proofs.YtlfihndbnaaodaaGreatDoor
set_option linter.unusedVariables false
open Go.RowKit
theorem below_chg {N P : Nat} {w0 w w' : World} (b : Below N w0 w) (c : Chg P w w') (hNP : N ≤ P) (hNw : N ≤ w.heap.size) : Below N w0 w' := b.trans (c.below hNP hNw)
end Go.Proofs.YtlfihndbnaaodaaGreatDoor
namespace Go.Proofs.YtlfihndbnaaodaaGreatDoor
set_option linter.unusedVariables false
open Go.RowKit
def X2 (T : TypeId) (w : World) (X : Nat) (c0 c1 : Value) : Prop := w.heap[X]? = some (.cells #[c0, c1] T (0, 0))
def X3 (T : TypeId) (w : World) (X : Nat) (c0 c1 c2 : Value) : Prop := w.heap[X]? = some (.cells #[c0, c1, c2] T (0, 0))
section
variable {T : TypeId} {w w' : World} {X P : Nat} {c0 c1 c2 : Value}
theorem X2.cell (h : X2 T w X c0 c1) : w.cell? ⟨X, 0, none⟩ = some c0 ∧ w.cell? ⟨X, 1, none⟩ = some c1 := by
 unfold X2 at h
 simp [World.cell?, h]
theorem X2.chg (h : X2 T w X c0 c1) (c : Chg P w w') (hX : X ≠ P) : X2 T w' X c0 c1 := by
 unfold X2 at h ⊢
 rw [c.block X (some_lt h) hX, h]
theorem X3.cell (h : X3 T w X c0 c1 c2) : w.cell? ⟨X, 0, none⟩ = some c0 ∧ w.cell? ⟨X, 1, none⟩ = some c1 ∧ w.cell? ⟨X, 2, none⟩ = some c2 := by
 unfold X3 at h
 simp [World.cell?, h]
theorem X3.chg (h : X3 T w X c0 c1 c2) (c : Chg P w w') (hX : X ≠ P) : X3 T w' X c0 c1 c2 := by
 unfold X3 at h ⊢
 rw [c.block X (some_lt h) hX, h]
end
abbrev hsz (w : World) : Nat := w.heap.size
theorem wf_u8 {n : Int} (h1 : 0 ≤ n) (h2 : n ≤ 255) : (Lit.int .u8 n).wf = true := by
 have a : IntKind.u8.min = 0 := by decide
 have b : IntKind.u8.max = 255 := by decide
 simp [Lit.wf, a, b]
 omega
end Go.Proofs.YtlfihndbnaaodaaGreatDoor
namespace Go.Proofs.YtlfihndbnaaodaaGreatDoor
set_option linter.unusedVariables false
open Go.RowKit
def okE (b : Bool) (e : Int) : Int := if b = true then 0 else e
def frst {α : Type} (f : α → Int) : List α → Int
 | [] => 0
 | x :: L => fstE (f x) (frst f L)
def chkL {α : Type} (most : Int) (f : α → Int) (L : List α) : Int := fstE (okE (decide ((L.length : Int) ≤ most)) 2) (frst f L)
theorem fstE_assoc (a b c : Int) : fstE (fstE a b) c = fstE a (fstE b c) := by
 unfold fstE
 by_cases h : a = 0
 ·simp [h]
 ·simp [h]
theorem fstE_right (a : Int) : fstE a 0 = a := by
 unfold fstE
 split <;> simp_all
theorem frst_app {α : Type} (f : α → Int) (A B : List α) : frst f (A ++ B) = fstE (frst f A) (frst f B) := by
 induction A with
 | nil => simp [frst, fstE]
 | cons x A ih => rw [List.cons_append, frst, frst, ih, fstE_assoc]
theorem frst_snoc {α : Type} (f : α → Int) (L : List α) (i : Nat) (h : i < L.length) : frst f (L.take (i + 1)) = fstE (frst f (L.take i)) (f L[i]) := by
 rw [List.take_succ_eq_append_getElem h, frst_app, frst, frst, fstE_right]
theorem frst_stop {α : Type} (a : Int) (f : α → Int) (L : List α) (i : Nat) (h : fstE a (frst f (L.take i)) ≠ 0) : fstE a (frst f L) = fstE a (frst f (L.take i)) := by
 have e : frst f L = fstE (frst f (L.take i)) (frst f (L.drop i)) := by rw [← frst_app, List.take_append_drop]
 rw [e, ← fstE_assoc, fstE_ne h]
def CK (w : World) (K : Nat) (a : Int) : Prop := w.heap[K]? = some (.cells #[.int .i64 a] 137 (0, 0))
theorem CK.lt {w : World} {K : Nat} {a : Int} (h : CK w K a) : K < w.heap.size := some_lt h
theorem CK.c {w : World} {K : Nat} {a : Int} (h : CK w K a) : w.cell? ⟨K, 0, none⟩ = some (.int .i64 a) := by
 unfold CK at h
 simp [World.cell?, h]
theorem CK.f {w : World} {K : Nat} {a : Int} (h : CK w K a) : w.frozen? ⟨K, 0, none⟩ = false := by
 unfold CK at h
 simp [World.frozen?, h]
theorem CK.set {w : World} {K : Nat} {a : Int} (h : CK w K a) (b : Int) : CK (w.setCell ⟨K, 0, none⟩ (.int .i64 b)) K b := by
 unfold CK at h ⊢
 simp [World.setCell, Array.getElem?_modify, h]
theorem CK.under {w w' : World} {K : Nat} {a : Int} (h : CK w K a) (b : Below w.heap.size w w') : CK w' K a := by
 unfold CK at h ⊢
 rw [b.block K (some_lt h), h]
def CkOut (K : Nat) (w : World) (a : Int) (r : Ending) (w' : World) : Prop := r = .returned (.tuple #[]) ∧ CK w' K a ∧ Chg K w w'
theorem need_any (K : Nat) (w : World) (a e : Int) (b : Bool) (h : CK w K a) :
  Calls Tryz.prog 118 #[.pointer (some ⟨K, 0, none⟩), .bool b, .int .i64 e] w (CkOut K w (fstE a (okE b e))) := by
 have hc := h.c
 have hf := h.f
 have HR : Hid (CK w K a) := h
 clear h
 by_cases h0 : a = 0
 ·subst h0
  cases b with
  | true =>
   go_enter Tryz.func118, Tryz.ntmps118
   go_wp2
   go_end0
   exact ⟨rfl, HR.out, Chg.refl _ _⟩
  | false =>
   go_enter Tryz.func118, Tryz.ntmps118
   go_wp2
   go_end0
   exact ⟨rfl, by have := HR.out.set e; unfold fstE okE; simpa using this, Chg.set _ _ _ _⟩
 ·have hb0 : (a == 0) = false := by rw [beq_eq_false_iff_ne]; exact h0
  rw [fstE_ne h0]
  go_enter Tryz.func118, Tryz.ntmps118
  go_wp2
  go_end0
  exact ⟨rfl, HR.out, Chg.refl _ _⟩
theorem each_sig (K N : Nat) (w0 w : World) (most a : Int) (chk : SigD → Int) (L : List SigD) (o : Option Addr) (n cap : Nat) (hn : L.length = n) (hcap : n ≤ cap) (hmax : cap ≤ maxLen)
  (hr : L = [] ∨ ∃ b f, o = some ⟨b, f, none⟩ ∧ b < N ∧ ∀ i (h : i < L.length) r, r < 2 → w0.cell? ⟨b, f + i * 2 + r, none⟩ = (SigD.cells L[i])[r]?)
  (h : CK w K a) (hb : Below N w0 w) (hNK : N ≤ K) (hNw : N ≤ w.heap.size)
  (HLOOK : Hid (∀ d ∈ L, ∀ w' a', CK w' K a' → Below N w0 w' → N ≤ w'.heap.size → Calls Tryz.prog 113 #[.pointer (some ⟨K, 0, none⟩), .agg #[.slice d.i.o d.i.n d.i.cap, .slice d.r.o d.r.n d.r.cap]] w' (CkOut K w' (fstE a' (chk d))))) :
  Calls Tryz.prog 112 #[.pointer (some ⟨K, 0, none⟩), .slice o n cap, .int .i64 most, .func (.func 113) #[.pointer (some ⟨K, 0, none⟩)] #[]] w (CkOut K w (fstE a (chkL most chk L))) := by
 unfold maxLen at hmax
 have HN : Hid (type_of% (need_any K w a 2 (decide ((n : Int) ≤ most)) h)) := need_any K w a 2 (decide ((n : Int) ≤ most)) h
 have HBW : Hid (Below N w0 w) := hb
 have HL : Hid (L.length = n) := hn
 have HSZ : Hid (N ≤ w.heap.size) := hNw
 rcases hr with rfl | ⟨b, f, rfl, hbN, hcells⟩
 ·have hn0 : n = 0 := by rw [← hn]; rfl
  subst hn0
  clear h hb hn hNw
  have HE0 : Hid (fstE a (chkL most chk []) = fstE a (okE (decide (((0 : Nat) : Int) ≤ most)) 2)) := by
   unfold Hid chkL frst
   rw [fstE_right]
   rfl
  go_enter Tryz.func112, Tryz.ntmps112
  go_wp2_with fail
  refine HN.out.mono ?_
  rintro r w1 ⟨rfl, hk1, hb1⟩
  rw [← HE0.out] at hk1
  have HK1 : Hid (type_of% hk1) := hk1
  have HB1 : Hid (Chg K w w1) := hb1
  clear hk1 hb1 HN
  go_wp2
  go_loopw [18] (fun iv wr => iv = .int .i64 0 ∧ Hid (CK wr K (fstE a (chkL most chk []))) ∧ Hid (Chg K w wr)) (fun _ _ => 0)
  case atStart => exact ⟨rfl, HK1, HB1⟩
  case round =>
   obtain ⟨rfl, HK, HB⟩ := hrel
   go_wp2
   go_end0
   exact ⟨rfl, HK.out, HB.out⟩
 have HR : Hid (type_of% hcells) := hcells
 clear h hb hcells hn hNw
 go_enter Tryz.func112, Tryz.ntmps112
 go_wp2_with fail
 refine HN.out.mono ?_
 rintro r w1 ⟨rfl, hk1, hb1⟩
 obtain ⟨a1, ha1⟩ : ∃ a1, a1 = fstE a (okE (decide ((n : Int) ≤ most)) 2) := ⟨_, rfl⟩
 rw [← ha1] at hk1
 have HE : Hid (fstE a (chkL most chk L) = fstE a1 (frst chk L)) := by
  unfold Hid chkL
  rw [ha1, fstE_assoc, HL.out]
 have HK1 : Hid (CK w1 K a1) := hk1
 have HB1 : Hid (Chg K w w1) := hb1
 clear hk1 hb1 HN ha1
 go_wp2
 go_loopw [18] (fun iv wr => ∃ i : Nat, iv = .int .i64 (i : Int) ∧ i ≤ n ∧ Hid (CK wr K (fstE a1 (frst chk (L.take i)))) ∧ Hid (Chg K w wr)) (fun iv _ => n - (intOf iv).toNat)
 case atStart => exact ⟨0, rfl, by omega, by unfold Hid; rw [List.take_zero, frst, fstE_right]; exact HK1.out, HB1⟩
 case round =>
  obtain ⟨i, rfl, hin, HK, HCg⟩ := hrel
  have HB : Hid (Below N w0 wr) := below_chg HBW.out HCg.out hNK HSZ.out
  clear HK1 HB1
  by_cases hlt : i < n
  ·have hiL : i < L.length := by rw [HL.out]; exact hlt
   have hi0 : (0 : Int) ≤ (i : Int) := by omega
   have hi1 : (i : Int) < (n : Int) := by omega
   have HS : Hid (frst chk (L.take (i + 1)) = fstE (frst chk (L.take i)) (chk L[i])) := frst_snoc chk L i hiL
   have HST : Hid (fstE a1 (frst chk (L.take i)) ≠ 0 → fstE a1 (frst chk L) = fstE a1 (frst chk (L.take i))) := frst_stop a1 chk L i
   have HLK : Hid (type_of% (HLOOK.out L[i] (List.getElem_mem hiL))) := HLOOK.out L[i] (List.getElem_mem hiL)
   have HCC : Hid (∀ r, r < 2 → wr.cell? ⟨b, f + i * 2 + r, none⟩ = (SigD.cells L[i])[r]?) := fun r hr => by
    rw [HB.out.cell (p := ⟨b, f + i * 2 + r, none⟩) hbN]
    exact HR.out i hiL r hr
   obtain ⟨d, hd⟩ : ∃ d, d = L[i] := ⟨_, rfl⟩
   rw [← hd] at HS HLK HCC
   clear hd
   have HCD : Hid ((fun d0 => chk d0) d = chk d) := rfl
   obtain ⟨cd, hcd⟩ : ∃ cd, cd = chk d := ⟨_, rfl⟩
   rw [← hcd] at HS HLK
   clear hcd HCD
   obtain ⟨⟨o1, n1, c1, x1⟩, ⟨o2, n2, c2, x2⟩⟩ := d
   have e0 : wr.cell? ⟨b, f + i * 2, none⟩ = some (.slice o1 n1 c1) := HCC.out 0 (by omega)
   have e1 : wr.cell? ⟨b, f + i * 2 + 1, none⟩ = some (.slice o2 n2 c2) := HCC.out 1 (by omega)
   have hc := HK.out.c
   have hKs := HK.out.lt
   have hbK : b ≠ K := by omega
   generalize hee : fstE a1 (frst chk (L.take i)) = ee at HK HST hc
   have HEE : Hid (fstE a1 (frst chk (L.take i)) = ee) := hee
   clear hee
   by_cases h0 : ee = 0
   ·subst h0
    have hs0 : (wr.alloc (.cells #[.slice none 0 0, .slice none 0 0] 83)).heap.size = wr.heap.size + 1 := by simp
    have hKn : K ≠ wr.heap.size := by omega
    have hbn : b ≠ wr.heap.size := by
     have := HB.out.size
     have h2 := HK.out.lt
     omega
    have HBA : Hid (Below N w0 (wr.alloc (.cells #[.slice o1 n1 c1, .slice o2 n2 c2] 83))) := HB.out.alloc (by have := HB.out.size; omega) _
    have HKA : Hid (CK (wr.alloc (.cells #[.slice o1 n1 c1, .slice o2 n2 c2] 83)) K 0) := HK.out.under ((Below.refl _ _).alloc (Nat.le_refl _) _)
    have hKn2 : wr.heap.size ≠ K := fun e => hKn e.symm
    have HSW : Hid (N ≤ ((wr.alloc (.cells #[.slice o1 n1 c1, .slice o2 n2 c2] 83))).heap.size) := by
     have h4 := HK.out.lt
     unfold Hid
     simp
     omega
    go_wp2_with fail
    refine (HLK.out _ _ HKA.out HBA.out HSW.out).mono ?_
    rintro r w2 ⟨rfl, hk2, hb2⟩
    have HK2 : Hid (CK w2 K (fstE a1 (frst chk (L.take (i + 1))))) := by
     unfold Hid
     rw [HS.out, ← fstE_assoc, HEE.out]
     exact hk2
    have HB2 : Hid (Chg K w w2) := HCg.out.trans ((Chg.of_below ((Below.refl _ _).alloc (Nat.le_refl _) _)).trans hb2)
    clear hk2 hb2 HK HB HCg HLK HCC HS HST HEE HKA HBA HSW
    go_wp2
    go_roundw
    case rel => exact ⟨i + 1, by go_num, by omega, HK2, HB2⟩
    case measure => simp [intOf]; omega
   ·have hb0 : (ee == 0) = false := by rw [beq_eq_false_iff_ne]; exact h0
    have hn0 : (ee != 0) = true := by rw [bne, hb0]; rfl
    have HH0 : Hid (ee ≠ 0) := h0
    have hKn : K ≠ wr.heap.size := by omega
    have hKn2 : wr.heap.size ≠ K := by omega
    have HBA : Hid (Below N w0 (wr.alloc (.cells #[.slice o1 n1 c1, .slice o2 n2 c2] 83))) := HB.out.alloc (by have := HB.out.size; omega) _
    have HKA : Hid (CK (wr.alloc (.cells #[.slice o1 n1 c1, .slice o2 n2 c2] 83)) K ee) := HK.out.under ((Below.refl _ _).alloc (Nat.le_refl _) _)
    clear h0
    go_wp2
    go_end0
    exact ⟨rfl, by rw [HE.out, HST.out HH0.out]; exact HKA.out, HCg.out.trans (Chg.of_below ((Below.refl _ _).alloc (Nat.le_refl _) _))⟩
  ·have HKF : Hid (CK wr K (fstE a1 (frst chk L))) := by
    have h1 := HK.out
    rw [List.take_of_length_le (by rw [HL.out]; omega)] at h1
    exact h1
   clear HK
   go_wp2
   go_end0
   exact ⟨rfl, by rw [HE.out]; exact HKF.out, HCg.out⟩
theorem each_imp (K N : Nat) (w0 w : World) (most a : Int) (chk : NamD → Int) (L : List NamD) (o : Option Addr) (n cap : Nat) (hn : L.length = n) (hcap : n ≤ cap) (hmax : cap ≤ maxLen)
  (hr : L = [] ∨ ∃ b f, o = some ⟨b, f, none⟩ ∧ b < N ∧ ∀ i (h : i < L.length) r, r < 2 → w0.cell? ⟨b, f + i * 2 + r, none⟩ = (NamD.cells L[i])[r]?)
  (h : CK w K a) (hb : Below N w0 w) (hNK : N ≤ K) (hNw : N ≤ w.heap.size)
  (HLOOK : Hid (∀ d ∈ L, ∀ w' a', CK w' K a' → Below N w0 w' → N ≤ w'.heap.size → Calls Tryz.prog 115 #[.pointer (some ⟨K, 0, none⟩), .agg #[.string d.s, .int .i64 d.n]] w' (CkOut K w' (fstE a' (chk d))))) :
  Calls Tryz.prog 114 #[.pointer (some ⟨K, 0, none⟩), .slice o n cap, .int .i64 most, .func (.func 115) #[.pointer (some ⟨K, 0, none⟩)] #[]] w (CkOut K w (fstE a (chkL most chk L))) := by
 unfold maxLen at hmax
 have HN : Hid (type_of% (need_any K w a 2 (decide ((n : Int) ≤ most)) h)) := need_any K w a 2 (decide ((n : Int) ≤ most)) h
 have HBW : Hid (Below N w0 w) := hb
 have HL : Hid (L.length = n) := hn
 have HSZ : Hid (N ≤ w.heap.size) := hNw
 rcases hr with rfl | ⟨b, f, rfl, hbN, hcells⟩
 ·have hn0 : n = 0 := by rw [← hn]; rfl
  subst hn0
  clear h hb hn hNw
  have HE0 : Hid (fstE a (chkL most chk []) = fstE a (okE (decide (((0 : Nat) : Int) ≤ most)) 2)) := by
   unfold Hid chkL frst
   rw [fstE_right]
   rfl
  go_enter Tryz.func114, Tryz.ntmps114
  go_wp2_with fail
  refine HN.out.mono ?_
  rintro r w1 ⟨rfl, hk1, hb1⟩
  rw [← HE0.out] at hk1
  have HK1 : Hid (type_of% hk1) := hk1
  have HB1 : Hid (Chg K w w1) := hb1
  clear hk1 hb1 HN
  go_wp2
  go_loopw [18] (fun iv wr => iv = .int .i64 0 ∧ Hid (CK wr K (fstE a (chkL most chk []))) ∧ Hid (Chg K w wr)) (fun _ _ => 0)
  case atStart => exact ⟨rfl, HK1, HB1⟩
  case round =>
   obtain ⟨rfl, HK, HB⟩ := hrel
   go_wp2
   go_end0
   exact ⟨rfl, HK.out, HB.out⟩
 have HR : Hid (type_of% hcells) := hcells
 clear h hb hcells hn hNw
 go_enter Tryz.func114, Tryz.ntmps114
 go_wp2_with fail
 refine HN.out.mono ?_
 rintro r w1 ⟨rfl, hk1, hb1⟩
 obtain ⟨a1, ha1⟩ : ∃ a1, a1 = fstE a (okE (decide ((n : Int) ≤ most)) 2) := ⟨_, rfl⟩
 rw [← ha1] at hk1
 have HE : Hid (fstE a (chkL most chk L) = fstE a1 (frst chk L)) := by
  unfold Hid chkL
  rw [ha1, fstE_assoc, HL.out]
 have HK1 : Hid (CK w1 K a1) := hk1
 have HB1 : Hid (Chg K w w1) := hb1
 clear hk1 hb1 HN ha1
 go_wp2
 go_loopw [18] (fun iv wr => ∃ i : Nat, iv = .int .i64 (i : Int) ∧ i ≤ n ∧ Hid (CK wr K (fstE a1 (frst chk (L.take i)))) ∧ Hid (Chg K w wr)) (fun iv _ => n - (intOf iv).toNat)
 case atStart => exact ⟨0, rfl, by omega, by unfold Hid; rw [List.take_zero, frst, fstE_right]; exact HK1.out, HB1⟩
 case round =>
  obtain ⟨i, rfl, hin, HK, HCg⟩ := hrel
  have HB : Hid (Below N w0 wr) := below_chg HBW.out HCg.out hNK HSZ.out
  clear HK1 HB1
  by_cases hlt : i < n
  ·have hiL : i < L.length := by rw [HL.out]; exact hlt
   have hi0 : (0 : Int) ≤ (i : Int) := by omega
   have hi1 : (i : Int) < (n : Int) := by omega
   have HS : Hid (frst chk (L.take (i + 1)) = fstE (frst chk (L.take i)) (chk L[i])) := frst_snoc chk L i hiL
   have HST : Hid (fstE a1 (frst chk (L.take i)) ≠ 0 → fstE a1 (frst chk L) = fstE a1 (frst chk (L.take i))) := frst_stop a1 chk L i
   have HLK : Hid (type_of% (HLOOK.out L[i] (List.getElem_mem hiL))) := HLOOK.out L[i] (List.getElem_mem hiL)
   have HCC : Hid (∀ r, r < 2 → wr.cell? ⟨b, f + i * 2 + r, none⟩ = (NamD.cells L[i])[r]?) := fun r hr => by
    rw [HB.out.cell (p := ⟨b, f + i * 2 + r, none⟩) hbN]
    exact HR.out i hiL r hr
   obtain ⟨d, hd⟩ : ∃ d, d = L[i] := ⟨_, rfl⟩
   rw [← hd] at HS HLK HCC
   clear hd
   have HCD : Hid ((fun d0 => chk d0) d = chk d) := rfl
   obtain ⟨cd, hcd⟩ : ∃ cd, cd = chk d := ⟨_, rfl⟩
   rw [← hcd] at HS HLK
   clear hcd HCD
   obtain ⟨s1, n1⟩ := d
   have e0 : wr.cell? ⟨b, f + i * 2, none⟩ = some (.string s1) := HCC.out 0 (by omega)
   have e1 : wr.cell? ⟨b, f + i * 2 + 1, none⟩ = some (.int .i64 n1) := HCC.out 1 (by omega)
   have hc := HK.out.c
   have hKs := HK.out.lt
   have hbK : b ≠ K := by omega
   generalize hee : fstE a1 (frst chk (L.take i)) = ee at HK HST hc
   have HEE : Hid (fstE a1 (frst chk (L.take i)) = ee) := hee
   clear hee
   by_cases h0 : ee = 0
   ·subst h0
    have hs0 : (wr.alloc (.cells #[.string ⟨#[]⟩, .int .i64 0] 92)).heap.size = wr.heap.size + 1 := by simp
    have hKn : K ≠ wr.heap.size := by omega
    have hbn : b ≠ wr.heap.size := by
     have := HB.out.size
     have h2 := HK.out.lt
     omega
    have HBA : Hid (Below N w0 (wr.alloc (.cells #[.string s1, .int .i64 n1] 92))) := HB.out.alloc (by have := HB.out.size; omega) _
    have HKA : Hid (CK (wr.alloc (.cells #[.string s1, .int .i64 n1] 92)) K 0) := HK.out.under ((Below.refl _ _).alloc (Nat.le_refl _) _)
    have hKn2 : wr.heap.size ≠ K := fun e => hKn e.symm
    have HSW : Hid (N ≤ ((wr.alloc (.cells #[.string s1, .int .i64 n1] 92))).heap.size) := by
     have h4 := HK.out.lt
     unfold Hid
     simp
     omega
    go_wp2_with fail
    refine (HLK.out _ _ HKA.out HBA.out HSW.out).mono ?_
    rintro r w2 ⟨rfl, hk2, hb2⟩
    have HK2 : Hid (CK w2 K (fstE a1 (frst chk (L.take (i + 1))))) := by
     unfold Hid
     rw [HS.out, ← fstE_assoc, HEE.out]
     exact hk2
    have HB2 : Hid (Chg K w w2) := HCg.out.trans ((Chg.of_below ((Below.refl _ _).alloc (Nat.le_refl _) _)).trans hb2)
    clear hk2 hb2 HK HB HCg HLK HCC HS HST HEE HKA HBA HSW
    go_wp2
    go_roundw
    case rel => exact ⟨i + 1, by go_num, by omega, HK2, HB2⟩
    case measure => simp [intOf]; omega
   ·have hb0 : (ee == 0) = false := by rw [beq_eq_false_iff_ne]; exact h0
    have hn0 : (ee != 0) = true := by rw [bne, hb0]; rfl
    have HH0 : Hid (ee ≠ 0) := h0
    have hKn : K ≠ wr.heap.size := by omega
    have hKn2 : wr.heap.size ≠ K := by omega
    have HBA : Hid (Below N w0 (wr.alloc (.cells #[.string s1, .int .i64 n1] 92))) := HB.out.alloc (by have := HB.out.size; omega) _
    have HKA : Hid (CK (wr.alloc (.cells #[.string s1, .int .i64 n1] 92)) K ee) := HK.out.under ((Below.refl _ _).alloc (Nat.le_refl _) _)
    clear h0
    go_wp2
    go_end0
    exact ⟨rfl, by rw [HE.out, HST.out HH0.out]; exact HKA.out, HCg.out.trans (Chg.of_below ((Below.refl _ _).alloc (Nat.le_refl _) _))⟩
  ·have HKF : Hid (CK wr K (fstE a1 (frst chk L))) := by
    have h1 := HK.out
    rw [List.take_of_length_le (by rw [HL.out]; omega)] at h1
    exact h1
   clear HK
   go_wp2
   go_end0
   exact ⟨rfl, by rw [HE.out]; exact HKF.out, HCg.out⟩
theorem each_fun (K N : Nat) (w0 w : World) (most a : Int) (chk : FunD → Int) (L : List FunD) (o : Option Addr) (n cap : Nat) (hn : L.length = n) (hcap : n ≤ cap) (hmax : cap ≤ maxLen)
  (hr : L = [] ∨ ∃ b f, o = some ⟨b, f, none⟩ ∧ b < N ∧ ∀ i (h : i < L.length) r, r < 3 → w0.cell? ⟨b, f + i * 3 + r, none⟩ = (FunD.cells L[i])[r]?)
  (h : CK w K a) (hb : Below N w0 w) (hNK : N ≤ K) (hNw : N ≤ w.heap.size)
  (HLOOK : Hid (∀ d ∈ L, ∀ w' a', CK w' K a' → Below N w0 w' → N ≤ w'.heap.size → Calls Tryz.prog 117 #[.pointer (some ⟨K, 0, none⟩), .agg #[.int .i64 d.t, .slice d.l.o d.l.n d.l.cap, .slice d.o d.b.length d.cap]] w' (CkOut K w' (fstE a' (chk d))))) :
  Calls Tryz.prog 116 #[.pointer (some ⟨K, 0, none⟩), .slice o n cap, .int .i64 most, .func (.func 117) #[.pointer (some ⟨K, 0, none⟩)] #[]] w (CkOut K w (fstE a (chkL most chk L))) := by
 unfold maxLen at hmax
 have HN : Hid (type_of% (need_any K w a 2 (decide ((n : Int) ≤ most)) h)) := need_any K w a 2 (decide ((n : Int) ≤ most)) h
 have HBW : Hid (Below N w0 w) := hb
 have HL : Hid (L.length = n) := hn
 have HSZ : Hid (N ≤ w.heap.size) := hNw
 rcases hr with rfl | ⟨b, f, rfl, hbN, hcells⟩
 ·have hn0 : n = 0 := by rw [← hn]; rfl
  subst hn0
  clear h hb hn hNw
  have HE0 : Hid (fstE a (chkL most chk []) = fstE a (okE (decide (((0 : Nat) : Int) ≤ most)) 2)) := by
   unfold Hid chkL frst
   rw [fstE_right]
   rfl
  go_enter Tryz.func116, Tryz.ntmps116
  go_wp2_with fail
  refine HN.out.mono ?_
  rintro r w1 ⟨rfl, hk1, hb1⟩
  rw [← HE0.out] at hk1
  have HK1 : Hid (type_of% hk1) := hk1
  have HB1 : Hid (Chg K w w1) := hb1
  clear hk1 hb1 HN
  go_wp2
  go_loopw [18] (fun iv wr => iv = .int .i64 0 ∧ Hid (CK wr K (fstE a (chkL most chk []))) ∧ Hid (Chg K w wr)) (fun _ _ => 0)
  case atStart => exact ⟨rfl, HK1, HB1⟩
  case round =>
   obtain ⟨rfl, HK, HB⟩ := hrel
   go_wp2
   go_end0
   exact ⟨rfl, HK.out, HB.out⟩
 have HR : Hid (type_of% hcells) := hcells
 clear h hb hcells hn hNw
 go_enter Tryz.func116, Tryz.ntmps116
 go_wp2_with fail
 refine HN.out.mono ?_
 rintro r w1 ⟨rfl, hk1, hb1⟩
 obtain ⟨a1, ha1⟩ : ∃ a1, a1 = fstE a (okE (decide ((n : Int) ≤ most)) 2) := ⟨_, rfl⟩
 rw [← ha1] at hk1
 have HE : Hid (fstE a (chkL most chk L) = fstE a1 (frst chk L)) := by
  unfold Hid chkL
  rw [ha1, fstE_assoc, HL.out]
 have HK1 : Hid (CK w1 K a1) := hk1
 have HB1 : Hid (Chg K w w1) := hb1
 clear hk1 hb1 HN ha1
 go_wp2
 go_loopw [18] (fun iv wr => ∃ i : Nat, iv = .int .i64 (i : Int) ∧ i ≤ n ∧ Hid (CK wr K (fstE a1 (frst chk (L.take i)))) ∧ Hid (Chg K w wr)) (fun iv _ => n - (intOf iv).toNat)
 case atStart => exact ⟨0, rfl, by omega, by unfold Hid; rw [List.take_zero, frst, fstE_right]; exact HK1.out, HB1⟩
 case round =>
  obtain ⟨i, rfl, hin, HK, HCg⟩ := hrel
  have HB : Hid (Below N w0 wr) := below_chg HBW.out HCg.out hNK HSZ.out
  clear HK1 HB1
  by_cases hlt : i < n
  ·have hiL : i < L.length := by rw [HL.out]; exact hlt
   have hi0 : (0 : Int) ≤ (i : Int) := by omega
   have hi1 : (i : Int) < (n : Int) := by omega
   have HS : Hid (frst chk (L.take (i + 1)) = fstE (frst chk (L.take i)) (chk L[i])) := frst_snoc chk L i hiL
   have HST : Hid (fstE a1 (frst chk (L.take i)) ≠ 0 → fstE a1 (frst chk L) = fstE a1 (frst chk (L.take i))) := frst_stop a1 chk L i
   have HLK : Hid (type_of% (HLOOK.out L[i] (List.getElem_mem hiL))) := HLOOK.out L[i] (List.getElem_mem hiL)
   have HCC : Hid (∀ r, r < 3 → wr.cell? ⟨b, f + i * 3 + r, none⟩ = (FunD.cells L[i])[r]?) := fun r hr => by
    rw [HB.out.cell (p := ⟨b, f + i * 3 + r, none⟩) hbN]
    exact HR.out i hiL r hr
   obtain ⟨d, hd⟩ : ∃ d, d = L[i] := ⟨_, rfl⟩
   rw [← hd] at HS HLK HCC
   clear hd
   have HCD : Hid ((fun d0 => chk d0) d = chk d) := rfl
   obtain ⟨cd, hcd⟩ : ∃ cd, cd = chk d := ⟨_, rfl⟩
   rw [← hcd] at HS HLK
   clear hcd HCD
   obtain ⟨t1, ⟨o2, n2, c2, x2⟩, o3, c3, b3⟩ := d
   have e0 : wr.cell? ⟨b, f + i * 3, none⟩ = some (.int .i64 t1) := HCC.out 0 (by omega)
   have e1 : wr.cell? ⟨b, f + i * 3 + 1, none⟩ = some (.slice o2 n2 c2) := HCC.out 1 (by omega)
   have e2 : wr.cell? ⟨b, f + i * 3 + 2, none⟩ = some (.slice o3 b3.length c3) := HCC.out 2 (by omega)
   have hc := HK.out.c
   have hKs := HK.out.lt
   have hbK : b ≠ K := by omega
   generalize hee : fstE a1 (frst chk (L.take i)) = ee at HK HST hc
   have HEE : Hid (fstE a1 (frst chk (L.take i)) = ee) := hee
   clear hee
   by_cases h0 : ee = 0
   ·subst h0
    have hs0 : (wr.alloc (.cells #[.int .i64 0, .slice none 0 0, .slice none 0 0] 59)).heap.size = wr.heap.size + 1 := by simp
    have hKn : K ≠ wr.heap.size := by omega
    have hbn : b ≠ wr.heap.size := by
     have := HB.out.size
     have h2 := HK.out.lt
     omega
    have HBA : Hid (Below N w0 (wr.alloc (.cells #[.int .i64 t1, .slice o2 n2 c2, .slice o3 b3.length c3] 59))) := HB.out.alloc (by have := HB.out.size; omega) _
    have HKA : Hid (CK (wr.alloc (.cells #[.int .i64 t1, .slice o2 n2 c2, .slice o3 b3.length c3] 59)) K 0) := HK.out.under ((Below.refl _ _).alloc (Nat.le_refl _) _)
    have hKn2 : wr.heap.size ≠ K := fun e => hKn e.symm
    have HSW : Hid (N ≤ ((wr.alloc (.cells #[.int .i64 t1, .slice o2 n2 c2, .slice o3 b3.length c3] 59))).heap.size) := by
     have h4 := HK.out.lt
     unfold Hid
     simp
     omega
    go_wp2_with fail
    refine (HLK.out _ _ HKA.out HBA.out HSW.out).mono ?_
    rintro r w2 ⟨rfl, hk2, hb2⟩
    have HK2 : Hid (CK w2 K (fstE a1 (frst chk (L.take (i + 1))))) := by
     unfold Hid
     rw [HS.out, ← fstE_assoc, HEE.out]
     exact hk2
    have HB2 : Hid (Chg K w w2) := HCg.out.trans ((Chg.of_below ((Below.refl _ _).alloc (Nat.le_refl _) _)).trans hb2)
    clear hk2 hb2 HK HB HCg HLK HCC HS HST HEE HKA HBA HSW
    go_wp2
    go_roundw
    case rel => exact ⟨i + 1, by go_num, by omega, HK2, HB2⟩
    case measure => simp [intOf]; omega
   ·have hb0 : (ee == 0) = false := by rw [beq_eq_false_iff_ne]; exact h0
    have hn0 : (ee != 0) = true := by rw [bne, hb0]; rfl
    have HH0 : Hid (ee ≠ 0) := h0
    have hKn : K ≠ wr.heap.size := by omega
    have hKn2 : wr.heap.size ≠ K := by omega
    have HBA : Hid (Below N w0 (wr.alloc (.cells #[.int .i64 t1, .slice o2 n2 c2, .slice o3 b3.length c3] 59))) := HB.out.alloc (by have := HB.out.size; omega) _
    have HKA : Hid (CK (wr.alloc (.cells #[.int .i64 t1, .slice o2 n2 c2, .slice o3 b3.length c3] 59)) K ee) := HK.out.under ((Below.refl _ _).alloc (Nat.le_refl _) _)
    clear h0
    go_wp2
    go_end0
    exact ⟨rfl, by rw [HE.out, HST.out HH0.out]; exact HKA.out, HCg.out.trans (Chg.of_below ((Below.refl _ _).alloc (Nat.le_refl _) _))⟩
  ·have HKF : Hid (CK wr K (fstE a1 (frst chk L))) := by
    have h1 := HK.out
    rw [List.take_of_length_le (by rw [HL.out]; omega)] at h1
    exact h1
   clear HK
   go_wp2
   go_end0
   exact ⟨rfl, by rw [HE.out]; exact HKF.out, HCg.out⟩
theorem each_glo (K N : Nat) (w0 w : World) (most a : Int) (chk : GloD → Int) (L : List GloD) (o : Option Addr) (n cap : Nat) (hn : L.length = n) (hcap : n ≤ cap) (hmax : cap ≤ maxLen)
  (hr : L = [] ∨ ∃ b f, o = some ⟨b, f, none⟩ ∧ b < N ∧ ∀ i (h : i < L.length) r, r < 3 → w0.cell? ⟨b, f + i * 3 + r, none⟩ = (GloD.cells L[i])[r]?)
  (h : CK w K a) (hb : Below N w0 w) (hNK : N ≤ K) (hNw : N ≤ w.heap.size)
  (HLOOK : Hid (∀ d ∈ L, ∀ w' a', CK w' K a' → Below N w0 w' → N ≤ w'.heap.size → Calls Tryz.prog 120 #[.pointer (some ⟨K, 0, none⟩), .agg #[.int .u8 d.k, .bool d.m, .int .i64 d.s]] w' (CkOut K w' (fstE a' (chk d))))) :
  Calls Tryz.prog 119 #[.pointer (some ⟨K, 0, none⟩), .slice o n cap, .int .i64 most, .func (.func 120) #[.pointer (some ⟨K, 0, none⟩)] #[]] w (CkOut K w (fstE a (chkL most chk L))) := by
 unfold maxLen at hmax
 have HN : Hid (type_of% (need_any K w a 2 (decide ((n : Int) ≤ most)) h)) := need_any K w a 2 (decide ((n : Int) ≤ most)) h
 have HBW : Hid (Below N w0 w) := hb
 have HL : Hid (L.length = n) := hn
 have HSZ : Hid (N ≤ w.heap.size) := hNw
 rcases hr with rfl | ⟨b, f, rfl, hbN, hcells⟩
 ·have hn0 : n = 0 := by rw [← hn]; rfl
  subst hn0
  clear h hb hn hNw
  have HE0 : Hid (fstE a (chkL most chk []) = fstE a (okE (decide (((0 : Nat) : Int) ≤ most)) 2)) := by
   unfold Hid chkL frst
   rw [fstE_right]
   rfl
  go_enter Tryz.func119, Tryz.ntmps119
  go_wp2_with fail
  refine HN.out.mono ?_
  rintro r w1 ⟨rfl, hk1, hb1⟩
  rw [← HE0.out] at hk1
  have HK1 : Hid (type_of% hk1) := hk1
  have HB1 : Hid (Chg K w w1) := hb1
  clear hk1 hb1 HN
  go_wp2
  go_loopw [18] (fun iv wr => iv = .int .i64 0 ∧ Hid (CK wr K (fstE a (chkL most chk []))) ∧ Hid (Chg K w wr)) (fun _ _ => 0)
  case atStart => exact ⟨rfl, HK1, HB1⟩
  case round =>
   obtain ⟨rfl, HK, HB⟩ := hrel
   go_wp2
   go_end0
   exact ⟨rfl, HK.out, HB.out⟩
 have HR : Hid (type_of% hcells) := hcells
 clear h hb hcells hn hNw
 go_enter Tryz.func119, Tryz.ntmps119
 go_wp2_with fail
 refine HN.out.mono ?_
 rintro r w1 ⟨rfl, hk1, hb1⟩
 obtain ⟨a1, ha1⟩ : ∃ a1, a1 = fstE a (okE (decide ((n : Int) ≤ most)) 2) := ⟨_, rfl⟩
 rw [← ha1] at hk1
 have HE : Hid (fstE a (chkL most chk L) = fstE a1 (frst chk L)) := by
  unfold Hid chkL
  rw [ha1, fstE_assoc, HL.out]
 have HK1 : Hid (CK w1 K a1) := hk1
 have HB1 : Hid (Chg K w w1) := hb1
 clear hk1 hb1 HN ha1
 go_wp2
 go_loopw [18] (fun iv wr => ∃ i : Nat, iv = .int .i64 (i : Int) ∧ i ≤ n ∧ Hid (CK wr K (fstE a1 (frst chk (L.take i)))) ∧ Hid (Chg K w wr)) (fun iv _ => n - (intOf iv).toNat)
 case atStart => exact ⟨0, rfl, by omega, by unfold Hid; rw [List.take_zero, frst, fstE_right]; exact HK1.out, HB1⟩
 case round =>
  obtain ⟨i, rfl, hin, HK, HCg⟩ := hrel
  have HB : Hid (Below N w0 wr) := below_chg HBW.out HCg.out hNK HSZ.out
  clear HK1 HB1
  by_cases hlt : i < n
  ·have hiL : i < L.length := by rw [HL.out]; exact hlt
   have hi0 : (0 : Int) ≤ (i : Int) := by omega
   have hi1 : (i : Int) < (n : Int) := by omega
   have HS : Hid (frst chk (L.take (i + 1)) = fstE (frst chk (L.take i)) (chk L[i])) := frst_snoc chk L i hiL
   have HST : Hid (fstE a1 (frst chk (L.take i)) ≠ 0 → fstE a1 (frst chk L) = fstE a1 (frst chk (L.take i))) := frst_stop a1 chk L i
   have HLK : Hid (type_of% (HLOOK.out L[i] (List.getElem_mem hiL))) := HLOOK.out L[i] (List.getElem_mem hiL)
   have HCC : Hid (∀ r, r < 3 → wr.cell? ⟨b, f + i * 3 + r, none⟩ = (GloD.cells L[i])[r]?) := fun r hr => by
    rw [HB.out.cell (p := ⟨b, f + i * 3 + r, none⟩) hbN]
    exact HR.out i hiL r hr
   obtain ⟨d, hd⟩ : ∃ d, d = L[i] := ⟨_, rfl⟩
   rw [← hd] at HS HLK HCC
   clear hd
   have HCD : Hid ((fun d0 => chk d0) d = chk d) := rfl
   obtain ⟨cd, hcd⟩ : ∃ cd, cd = chk d := ⟨_, rfl⟩
   rw [← hcd] at HS HLK
   clear hcd HCD
   obtain ⟨k1, m1, s1⟩ := d
   have e0 : wr.cell? ⟨b, f + i * 3, none⟩ = some (.int .u8 k1) := HCC.out 0 (by omega)
   have e1 : wr.cell? ⟨b, f + i * 3 + 1, none⟩ = some (.bool m1) := HCC.out 1 (by omega)
   have e2 : wr.cell? ⟨b, f + i * 3 + 2, none⟩ = some (.int .i64 s1) := HCC.out 2 (by omega)
   have hc := HK.out.c
   have hKs := HK.out.lt
   have hbK : b ≠ K := by omega
   generalize hee : fstE a1 (frst chk (L.take i)) = ee at HK HST hc
   have HEE : Hid (fstE a1 (frst chk (L.take i)) = ee) := hee
   clear hee
   by_cases h0 : ee = 0
   ·subst h0
    have hs0 : (wr.alloc (.cells #[.int .u8 0, .bool false, .int .i64 0] 127)).heap.size = wr.heap.size + 1 := by simp
    have hKn : K ≠ wr.heap.size := by omega
    have hbn : b ≠ wr.heap.size := by
     have := HB.out.size
     have h2 := HK.out.lt
     omega
    have HBA : Hid (Below N w0 (wr.alloc (.cells #[.int .u8 k1, .bool m1, .int .i64 s1] 127))) := HB.out.alloc (by have := HB.out.size; omega) _
    have HKA : Hid (CK (wr.alloc (.cells #[.int .u8 k1, .bool m1, .int .i64 s1] 127)) K 0) := HK.out.under ((Below.refl _ _).alloc (Nat.le_refl _) _)
    have hKn2 : wr.heap.size ≠ K := fun e => hKn e.symm
    have HSW : Hid (N ≤ ((wr.alloc (.cells #[.int .u8 k1, .bool m1, .int .i64 s1] 127))).heap.size) := by
     have h4 := HK.out.lt
     unfold Hid
     simp
     omega
    go_wp2_with fail
    refine (HLK.out _ _ HKA.out HBA.out HSW.out).mono ?_
    rintro r w2 ⟨rfl, hk2, hb2⟩
    have HK2 : Hid (CK w2 K (fstE a1 (frst chk (L.take (i + 1))))) := by
     unfold Hid
     rw [HS.out, ← fstE_assoc, HEE.out]
     exact hk2
    have HB2 : Hid (Chg K w w2) := HCg.out.trans ((Chg.of_below ((Below.refl _ _).alloc (Nat.le_refl _) _)).trans hb2)
    clear hk2 hb2 HK HB HCg HLK HCC HS HST HEE HKA HBA HSW
    go_wp2
    go_roundw
    case rel => exact ⟨i + 1, by go_num, by omega, HK2, HB2⟩
    case measure => simp [intOf]; omega
   ·have hb0 : (ee == 0) = false := by rw [beq_eq_false_iff_ne]; exact h0
    have hn0 : (ee != 0) = true := by rw [bne, hb0]; rfl
    have HH0 : Hid (ee ≠ 0) := h0
    have hKn : K ≠ wr.heap.size := by omega
    have hKn2 : wr.heap.size ≠ K := by omega
    have HBA : Hid (Below N w0 (wr.alloc (.cells #[.int .u8 k1, .bool m1, .int .i64 s1] 127))) := HB.out.alloc (by have := HB.out.size; omega) _
    have HKA : Hid (CK (wr.alloc (.cells #[.int .u8 k1, .bool m1, .int .i64 s1] 127)) K ee) := HK.out.under ((Below.refl _ _).alloc (Nat.le_refl _) _)
    clear h0
    go_wp2
    go_end0
    exact ⟨rfl, by rw [HE.out, HST.out HH0.out]; exact HKA.out, HCg.out.trans (Chg.of_below ((Below.refl _ _).alloc (Nat.le_refl _) _))⟩
  ·have HKF : Hid (CK wr K (fstE a1 (frst chk L))) := by
    have h1 := HK.out
    rw [List.take_of_length_le (by rw [HL.out]; omega)] at h1
    exact h1
   clear HK
   go_wp2
   go_end0
   exact ⟨rfl, by rw [HE.out]; exact HKF.out, HCg.out⟩
theorem each_exp (K N : Nat) (w0 w : World) (most a : Int) (chk : NamD → Int) (L : List NamD) (o : Option Addr) (n cap : Nat) (hn : L.length = n) (hcap : n ≤ cap) (hmax : cap ≤ maxLen)
  (hr : L = [] ∨ ∃ b f, o = some ⟨b, f, none⟩ ∧ b < N ∧ ∀ i (h : i < L.length) r, r < 2 → w0.cell? ⟨b, f + i * 2 + r, none⟩ = (NamD.cells L[i])[r]?)
  (h : CK w K a) (hb : Below N w0 w) (hNK : N ≤ K) (hNw : N ≤ w.heap.size)
  (HLOOK : Hid (∀ d ∈ L, ∀ w' a', CK w' K a' → Below N w0 w' → N ≤ w'.heap.size → Calls Tryz.prog 122 #[.pointer (some ⟨K, 0, none⟩), .agg #[.string d.s, .int .i64 d.n]] w' (CkOut K w' (fstE a' (chk d))))) :
  Calls Tryz.prog 121 #[.pointer (some ⟨K, 0, none⟩), .slice o n cap, .int .i64 most, .func (.func 122) #[.pointer (some ⟨K, 0, none⟩)] #[]] w (CkOut K w (fstE a (chkL most chk L))) := by
 unfold maxLen at hmax
 have HN : Hid (type_of% (need_any K w a 2 (decide ((n : Int) ≤ most)) h)) := need_any K w a 2 (decide ((n : Int) ≤ most)) h
 have HBW : Hid (Below N w0 w) := hb
 have HL : Hid (L.length = n) := hn
 have HSZ : Hid (N ≤ w.heap.size) := hNw
 rcases hr with rfl | ⟨b, f, rfl, hbN, hcells⟩
 ·have hn0 : n = 0 := by rw [← hn]; rfl
  subst hn0
  clear h hb hn hNw
  have HE0 : Hid (fstE a (chkL most chk []) = fstE a (okE (decide (((0 : Nat) : Int) ≤ most)) 2)) := by
   unfold Hid chkL frst
   rw [fstE_right]
   rfl
  go_enter Tryz.func121, Tryz.ntmps121
  go_wp2_with fail
  refine HN.out.mono ?_
  rintro r w1 ⟨rfl, hk1, hb1⟩
  rw [← HE0.out] at hk1
  have HK1 : Hid (type_of% hk1) := hk1
  have HB1 : Hid (Chg K w w1) := hb1
  clear hk1 hb1 HN
  go_wp2
  go_loopw [18] (fun iv wr => iv = .int .i64 0 ∧ Hid (CK wr K (fstE a (chkL most chk []))) ∧ Hid (Chg K w wr)) (fun _ _ => 0)
  case atStart => exact ⟨rfl, HK1, HB1⟩
  case round =>
   obtain ⟨rfl, HK, HB⟩ := hrel
   go_wp2
   go_end0
   exact ⟨rfl, HK.out, HB.out⟩
 have HR : Hid (type_of% hcells) := hcells
 clear h hb hcells hn hNw
 go_enter Tryz.func121, Tryz.ntmps121
 go_wp2_with fail
 refine HN.out.mono ?_
 rintro r w1 ⟨rfl, hk1, hb1⟩
 obtain ⟨a1, ha1⟩ : ∃ a1, a1 = fstE a (okE (decide ((n : Int) ≤ most)) 2) := ⟨_, rfl⟩
 rw [← ha1] at hk1
 have HE : Hid (fstE a (chkL most chk L) = fstE a1 (frst chk L)) := by
  unfold Hid chkL
  rw [ha1, fstE_assoc, HL.out]
 have HK1 : Hid (CK w1 K a1) := hk1
 have HB1 : Hid (Chg K w w1) := hb1
 clear hk1 hb1 HN ha1
 go_wp2
 go_loopw [18] (fun iv wr => ∃ i : Nat, iv = .int .i64 (i : Int) ∧ i ≤ n ∧ Hid (CK wr K (fstE a1 (frst chk (L.take i)))) ∧ Hid (Chg K w wr)) (fun iv _ => n - (intOf iv).toNat)
 case atStart => exact ⟨0, rfl, by omega, by unfold Hid; rw [List.take_zero, frst, fstE_right]; exact HK1.out, HB1⟩
 case round =>
  obtain ⟨i, rfl, hin, HK, HCg⟩ := hrel
  have HB : Hid (Below N w0 wr) := below_chg HBW.out HCg.out hNK HSZ.out
  clear HK1 HB1
  by_cases hlt : i < n
  ·have hiL : i < L.length := by rw [HL.out]; exact hlt
   have hi0 : (0 : Int) ≤ (i : Int) := by omega
   have hi1 : (i : Int) < (n : Int) := by omega
   have HS : Hid (frst chk (L.take (i + 1)) = fstE (frst chk (L.take i)) (chk L[i])) := frst_snoc chk L i hiL
   have HST : Hid (fstE a1 (frst chk (L.take i)) ≠ 0 → fstE a1 (frst chk L) = fstE a1 (frst chk (L.take i))) := frst_stop a1 chk L i
   have HLK : Hid (type_of% (HLOOK.out L[i] (List.getElem_mem hiL))) := HLOOK.out L[i] (List.getElem_mem hiL)
   have HCC : Hid (∀ r, r < 2 → wr.cell? ⟨b, f + i * 2 + r, none⟩ = (NamD.cells L[i])[r]?) := fun r hr => by
    rw [HB.out.cell (p := ⟨b, f + i * 2 + r, none⟩) hbN]
    exact HR.out i hiL r hr
   obtain ⟨d, hd⟩ : ∃ d, d = L[i] := ⟨_, rfl⟩
   rw [← hd] at HS HLK HCC
   clear hd
   have HCD : Hid ((fun d0 => chk d0) d = chk d) := rfl
   obtain ⟨cd, hcd⟩ : ∃ cd, cd = chk d := ⟨_, rfl⟩
   rw [← hcd] at HS HLK
   clear hcd HCD
   obtain ⟨s1, n1⟩ := d
   have e0 : wr.cell? ⟨b, f + i * 2, none⟩ = some (.string s1) := HCC.out 0 (by omega)
   have e1 : wr.cell? ⟨b, f + i * 2 + 1, none⟩ = some (.int .i64 n1) := HCC.out 1 (by omega)
   have hc := HK.out.c
   have hKs := HK.out.lt
   have hbK : b ≠ K := by omega
   generalize hee : fstE a1 (frst chk (L.take i)) = ee at HK HST hc
   have HEE : Hid (fstE a1 (frst chk (L.take i)) = ee) := hee
   clear hee
   by_cases h0 : ee = 0
   ·subst h0
    have hs0 : (wr.alloc (.cells #[.string ⟨#[]⟩, .int .i64 0] 95)).heap.size = wr.heap.size + 1 := by simp
    have hKn : K ≠ wr.heap.size := by omega
    have hbn : b ≠ wr.heap.size := by
     have := HB.out.size
     have h2 := HK.out.lt
     omega
    have HBA : Hid (Below N w0 (wr.alloc (.cells #[.string s1, .int .i64 n1] 95))) := HB.out.alloc (by have := HB.out.size; omega) _
    have HKA : Hid (CK (wr.alloc (.cells #[.string s1, .int .i64 n1] 95)) K 0) := HK.out.under ((Below.refl _ _).alloc (Nat.le_refl _) _)
    have hKn2 : wr.heap.size ≠ K := fun e => hKn e.symm
    have HSW : Hid (N ≤ ((wr.alloc (.cells #[.string s1, .int .i64 n1] 95))).heap.size) := by
     have h4 := HK.out.lt
     unfold Hid
     simp
     omega
    go_wp2_with fail
    refine (HLK.out _ _ HKA.out HBA.out HSW.out).mono ?_
    rintro r w2 ⟨rfl, hk2, hb2⟩
    have HK2 : Hid (CK w2 K (fstE a1 (frst chk (L.take (i + 1))))) := by
     unfold Hid
     rw [HS.out, ← fstE_assoc, HEE.out]
     exact hk2
    have HB2 : Hid (Chg K w w2) := HCg.out.trans ((Chg.of_below ((Below.refl _ _).alloc (Nat.le_refl _) _)).trans hb2)
    clear hk2 hb2 HK HB HCg HLK HCC HS HST HEE HKA HBA HSW
    go_wp2
    go_roundw
    case rel => exact ⟨i + 1, by go_num, by omega, HK2, HB2⟩
    case measure => simp [intOf]; omega
   ·have hb0 : (ee == 0) = false := by rw [beq_eq_false_iff_ne]; exact h0
    have hn0 : (ee != 0) = true := by rw [bne, hb0]; rfl
    have HH0 : Hid (ee ≠ 0) := h0
    have hKn : K ≠ wr.heap.size := by omega
    have hKn2 : wr.heap.size ≠ K := by omega
    have HBA : Hid (Below N w0 (wr.alloc (.cells #[.string s1, .int .i64 n1] 95))) := HB.out.alloc (by have := HB.out.size; omega) _
    have HKA : Hid (CK (wr.alloc (.cells #[.string s1, .int .i64 n1] 95)) K ee) := HK.out.under ((Below.refl _ _).alloc (Nat.le_refl _) _)
    clear h0
    go_wp2
    go_end0
    exact ⟨rfl, by rw [HE.out, HST.out HH0.out]; exact HKA.out, HCg.out.trans (Chg.of_below ((Below.refl _ _).alloc (Nat.le_refl _) _))⟩
  ·have HKF : Hid (CK wr K (fstE a1 (frst chk L))) := by
    have h1 := HK.out
    rw [List.take_of_length_le (by rw [HL.out]; omega)] at h1
    exact h1
   clear HK
   go_wp2
   go_end0
   exact ⟨rfl, by rw [HE.out]; exact HKF.out, HCg.out⟩
theorem each_ele (K N : Nat) (w0 w : World) (most a : Int) (chk : EleD → Int) (L : List EleD) (o : Option Addr) (n cap : Nat) (hn : L.length = n) (hcap : n ≤ cap) (hmax : cap ≤ maxLen)
  (hr : L = [] ∨ ∃ b f, o = some ⟨b, f, none⟩ ∧ b < N ∧ ∀ i (h : i < L.length) r, r < 2 → w0.cell? ⟨b, f + i * 2 + r, none⟩ = (EleD.cells L[i])[r]?)
  (h : CK w K a) (hb : Below N w0 w) (hNK : N ≤ K) (hNw : N ≤ w.heap.size)
  (HLOOK : Hid (∀ d ∈ L, ∀ w' a', CK w' K a' → Below N w0 w' → N ≤ w'.heap.size → Calls Tryz.prog 125 #[.pointer (some ⟨K, 0, none⟩), .agg #[.int .i64 d.a, .slice d.f.o d.f.n d.f.cap]] w' (CkOut K w' (fstE a' (chk d))))) :
  Calls Tryz.prog 124 #[.pointer (some ⟨K, 0, none⟩), .slice o n cap, .int .i64 most, .func (.func 125) #[.pointer (some ⟨K, 0, none⟩)] #[]] w (CkOut K w (fstE a (chkL most chk L))) := by
 unfold maxLen at hmax
 have HN : Hid (type_of% (need_any K w a 2 (decide ((n : Int) ≤ most)) h)) := need_any K w a 2 (decide ((n : Int) ≤ most)) h
 have HBW : Hid (Below N w0 w) := hb
 have HL : Hid (L.length = n) := hn
 have HSZ : Hid (N ≤ w.heap.size) := hNw
 rcases hr with rfl | ⟨b, f, rfl, hbN, hcells⟩
 ·have hn0 : n = 0 := by rw [← hn]; rfl
  subst hn0
  clear h hb hn hNw
  have HE0 : Hid (fstE a (chkL most chk []) = fstE a (okE (decide (((0 : Nat) : Int) ≤ most)) 2)) := by
   unfold Hid chkL frst
   rw [fstE_right]
   rfl
  go_enter Tryz.func124, Tryz.ntmps124
  go_wp2_with fail
  refine HN.out.mono ?_
  rintro r w1 ⟨rfl, hk1, hb1⟩
  rw [← HE0.out] at hk1
  have HK1 : Hid (type_of% hk1) := hk1
  have HB1 : Hid (Chg K w w1) := hb1
  clear hk1 hb1 HN
  go_wp2
  go_loopw [18] (fun iv wr => iv = .int .i64 0 ∧ Hid (CK wr K (fstE a (chkL most chk []))) ∧ Hid (Chg K w wr)) (fun _ _ => 0)
  case atStart => exact ⟨rfl, HK1, HB1⟩
  case round =>
   obtain ⟨rfl, HK, HB⟩ := hrel
   go_wp2
   go_end0
   exact ⟨rfl, HK.out, HB.out⟩
 have HR : Hid (type_of% hcells) := hcells
 clear h hb hcells hn hNw
 go_enter Tryz.func124, Tryz.ntmps124
 go_wp2_with fail
 refine HN.out.mono ?_
 rintro r w1 ⟨rfl, hk1, hb1⟩
 obtain ⟨a1, ha1⟩ : ∃ a1, a1 = fstE a (okE (decide ((n : Int) ≤ most)) 2) := ⟨_, rfl⟩
 rw [← ha1] at hk1
 have HE : Hid (fstE a (chkL most chk L) = fstE a1 (frst chk L)) := by
  unfold Hid chkL
  rw [ha1, fstE_assoc, HL.out]
 have HK1 : Hid (CK w1 K a1) := hk1
 have HB1 : Hid (Chg K w w1) := hb1
 clear hk1 hb1 HN ha1
 go_wp2
 go_loopw [18] (fun iv wr => ∃ i : Nat, iv = .int .i64 (i : Int) ∧ i ≤ n ∧ Hid (CK wr K (fstE a1 (frst chk (L.take i)))) ∧ Hid (Chg K w wr)) (fun iv _ => n - (intOf iv).toNat)
 case atStart => exact ⟨0, rfl, by omega, by unfold Hid; rw [List.take_zero, frst, fstE_right]; exact HK1.out, HB1⟩
 case round =>
  obtain ⟨i, rfl, hin, HK, HCg⟩ := hrel
  have HB : Hid (Below N w0 wr) := below_chg HBW.out HCg.out hNK HSZ.out
  clear HK1 HB1
  by_cases hlt : i < n
  ·have hiL : i < L.length := by rw [HL.out]; exact hlt
   have hi0 : (0 : Int) ≤ (i : Int) := by omega
   have hi1 : (i : Int) < (n : Int) := by omega
   have HS : Hid (frst chk (L.take (i + 1)) = fstE (frst chk (L.take i)) (chk L[i])) := frst_snoc chk L i hiL
   have HST : Hid (fstE a1 (frst chk (L.take i)) ≠ 0 → fstE a1 (frst chk L) = fstE a1 (frst chk (L.take i))) := frst_stop a1 chk L i
   have HLK : Hid (type_of% (HLOOK.out L[i] (List.getElem_mem hiL))) := HLOOK.out L[i] (List.getElem_mem hiL)
   have HCC : Hid (∀ r, r < 2 → wr.cell? ⟨b, f + i * 2 + r, none⟩ = (EleD.cells L[i])[r]?) := fun r hr => by
    rw [HB.out.cell (p := ⟨b, f + i * 2 + r, none⟩) hbN]
    exact HR.out i hiL r hr
   obtain ⟨d, hd⟩ : ∃ d, d = L[i] := ⟨_, rfl⟩
   rw [← hd] at HS HLK HCC
   clear hd
   have HCD : Hid ((fun d0 => chk d0) d = chk d) := rfl
   obtain ⟨cd, hcd⟩ : ∃ cd, cd = chk d := ⟨_, rfl⟩
   rw [← hcd] at HS HLK
   clear hcd HCD
   obtain ⟨y1, ⟨o2, n2, c2, x2⟩⟩ := d
   have e0 : wr.cell? ⟨b, f + i * 2, none⟩ = some (.int .i64 y1) := HCC.out 0 (by omega)
   have e1 : wr.cell? ⟨b, f + i * 2 + 1, none⟩ = some (.slice o2 n2 c2) := HCC.out 1 (by omega)
   have hc := HK.out.c
   have hKs := HK.out.lt
   have hbK : b ≠ K := by omega
   generalize hee : fstE a1 (frst chk (L.take i)) = ee at HK HST hc
   have HEE : Hid (fstE a1 (frst chk (L.take i)) = ee) := hee
   clear hee
   by_cases h0 : ee = 0
   ·subst h0
    have hs0 : (wr.alloc (.cells #[.int .i64 0, .slice none 0 0] 99)).heap.size = wr.heap.size + 1 := by simp
    have hKn : K ≠ wr.heap.size := by omega
    have hbn : b ≠ wr.heap.size := by
     have := HB.out.size
     have h2 := HK.out.lt
     omega
    have HBA : Hid (Below N w0 (wr.alloc (.cells #[.int .i64 y1, .slice o2 n2 c2] 99))) := HB.out.alloc (by have := HB.out.size; omega) _
    have HKA : Hid (CK (wr.alloc (.cells #[.int .i64 y1, .slice o2 n2 c2] 99)) K 0) := HK.out.under ((Below.refl _ _).alloc (Nat.le_refl _) _)
    have hKn2 : wr.heap.size ≠ K := fun e => hKn e.symm
    have HSW : Hid (N ≤ ((wr.alloc (.cells #[.int .i64 y1, .slice o2 n2 c2] 99))).heap.size) := by
     have h4 := HK.out.lt
     unfold Hid
     simp
     omega
    go_wp2_with fail
    refine (HLK.out _ _ HKA.out HBA.out HSW.out).mono ?_
    rintro r w2 ⟨rfl, hk2, hb2⟩
    have HK2 : Hid (CK w2 K (fstE a1 (frst chk (L.take (i + 1))))) := by
     unfold Hid
     rw [HS.out, ← fstE_assoc, HEE.out]
     exact hk2
    have HB2 : Hid (Chg K w w2) := HCg.out.trans ((Chg.of_below ((Below.refl _ _).alloc (Nat.le_refl _) _)).trans hb2)
    clear hk2 hb2 HK HB HCg HLK HCC HS HST HEE HKA HBA HSW
    go_wp2
    go_roundw
    case rel => exact ⟨i + 1, by go_num, by omega, HK2, HB2⟩
    case measure => simp [intOf]; omega
   ·have hb0 : (ee == 0) = false := by rw [beq_eq_false_iff_ne]; exact h0
    have hn0 : (ee != 0) = true := by rw [bne, hb0]; rfl
    have HH0 : Hid (ee ≠ 0) := h0
    have hKn : K ≠ wr.heap.size := by omega
    have hKn2 : wr.heap.size ≠ K := by omega
    have HBA : Hid (Below N w0 (wr.alloc (.cells #[.int .i64 y1, .slice o2 n2 c2] 99))) := HB.out.alloc (by have := HB.out.size; omega) _
    have HKA : Hid (CK (wr.alloc (.cells #[.int .i64 y1, .slice o2 n2 c2] 99)) K ee) := HK.out.under ((Below.refl _ _).alloc (Nat.le_refl _) _)
    clear h0
    go_wp2
    go_end0
    exact ⟨rfl, by rw [HE.out, HST.out HH0.out]; exact HKA.out, HCg.out.trans (Chg.of_below ((Below.refl _ _).alloc (Nat.le_refl _) _))⟩
  ·have HKF : Hid (CK wr K (fstE a1 (frst chk L))) := by
    have h1 := HK.out
    rw [List.take_of_length_le (by rw [HL.out]; omega)] at h1
    exact h1
   clear HK
   go_wp2
   go_end0
   exact ⟨rfl, by rw [HE.out]; exact HKF.out, HCg.out⟩
theorem each_dat (K N : Nat) (w0 w : World) (most a : Int) (chk : DatD → Int) (L : List DatD) (o : Option Addr) (n cap : Nat) (hn : L.length = n) (hcap : n ≤ cap) (hmax : cap ≤ maxLen)
  (hr : L = [] ∨ ∃ b f, o = some ⟨b, f, none⟩ ∧ b < N ∧ ∀ i (h : i < L.length) r, r < 2 → w0.cell? ⟨b, f + i * 2 + r, none⟩ = (DatD.cells L[i])[r]?)
  (h : CK w K a) (hb : Below N w0 w) (hNK : N ≤ K) (hNw : N ≤ w.heap.size)
  (HLOOK : Hid (∀ d ∈ L, ∀ w' a', CK w' K a' → Below N w0 w' → N ≤ w'.heap.size → Calls Tryz.prog 127 #[.pointer (some ⟨K, 0, none⟩), .agg #[.int .i64 d.a, .string d.s]] w' (CkOut K w' (fstE a' (chk d))))) :
  Calls Tryz.prog 126 #[.pointer (some ⟨K, 0, none⟩), .slice o n cap, .int .i64 most, .func (.func 127) #[.pointer (some ⟨K, 0, none⟩)] #[]] w (CkOut K w (fstE a (chkL most chk L))) := by
 unfold maxLen at hmax
 have HN : Hid (type_of% (need_any K w a 2 (decide ((n : Int) ≤ most)) h)) := need_any K w a 2 (decide ((n : Int) ≤ most)) h
 have HBW : Hid (Below N w0 w) := hb
 have HL : Hid (L.length = n) := hn
 have HSZ : Hid (N ≤ w.heap.size) := hNw
 rcases hr with rfl | ⟨b, f, rfl, hbN, hcells⟩
 ·have hn0 : n = 0 := by rw [← hn]; rfl
  subst hn0
  clear h hb hn hNw
  have HE0 : Hid (fstE a (chkL most chk []) = fstE a (okE (decide (((0 : Nat) : Int) ≤ most)) 2)) := by
   unfold Hid chkL frst
   rw [fstE_right]
   rfl
  go_enter Tryz.func126, Tryz.ntmps126
  go_wp2_with fail
  refine HN.out.mono ?_
  rintro r w1 ⟨rfl, hk1, hb1⟩
  rw [← HE0.out] at hk1
  have HK1 : Hid (type_of% hk1) := hk1
  have HB1 : Hid (Chg K w w1) := hb1
  clear hk1 hb1 HN
  go_wp2
  go_loopw [18] (fun iv wr => iv = .int .i64 0 ∧ Hid (CK wr K (fstE a (chkL most chk []))) ∧ Hid (Chg K w wr)) (fun _ _ => 0)
  case atStart => exact ⟨rfl, HK1, HB1⟩
  case round =>
   obtain ⟨rfl, HK, HB⟩ := hrel
   go_wp2
   go_end0
   exact ⟨rfl, HK.out, HB.out⟩
 have HR : Hid (type_of% hcells) := hcells
 clear h hb hcells hn hNw
 go_enter Tryz.func126, Tryz.ntmps126
 go_wp2_with fail
 refine HN.out.mono ?_
 rintro r w1 ⟨rfl, hk1, hb1⟩
 obtain ⟨a1, ha1⟩ : ∃ a1, a1 = fstE a (okE (decide ((n : Int) ≤ most)) 2) := ⟨_, rfl⟩
 rw [← ha1] at hk1
 have HE : Hid (fstE a (chkL most chk L) = fstE a1 (frst chk L)) := by
  unfold Hid chkL
  rw [ha1, fstE_assoc, HL.out]
 have HK1 : Hid (CK w1 K a1) := hk1
 have HB1 : Hid (Chg K w w1) := hb1
 clear hk1 hb1 HN ha1
 go_wp2
 go_loopw [18] (fun iv wr => ∃ i : Nat, iv = .int .i64 (i : Int) ∧ i ≤ n ∧ Hid (CK wr K (fstE a1 (frst chk (L.take i)))) ∧ Hid (Chg K w wr)) (fun iv _ => n - (intOf iv).toNat)
 case atStart => exact ⟨0, rfl, by omega, by unfold Hid; rw [List.take_zero, frst, fstE_right]; exact HK1.out, HB1⟩
 case round =>
  obtain ⟨i, rfl, hin, HK, HCg⟩ := hrel
  have HB : Hid (Below N w0 wr) := below_chg HBW.out HCg.out hNK HSZ.out
  clear HK1 HB1
  by_cases hlt : i < n
  ·have hiL : i < L.length := by rw [HL.out]; exact hlt
   have hi0 : (0 : Int) ≤ (i : Int) := by omega
   have hi1 : (i : Int) < (n : Int) := by omega
   have HS : Hid (frst chk (L.take (i + 1)) = fstE (frst chk (L.take i)) (chk L[i])) := frst_snoc chk L i hiL
   have HST : Hid (fstE a1 (frst chk (L.take i)) ≠ 0 → fstE a1 (frst chk L) = fstE a1 (frst chk (L.take i))) := frst_stop a1 chk L i
   have HLK : Hid (type_of% (HLOOK.out L[i] (List.getElem_mem hiL))) := HLOOK.out L[i] (List.getElem_mem hiL)
   have HCC : Hid (∀ r, r < 2 → wr.cell? ⟨b, f + i * 2 + r, none⟩ = (DatD.cells L[i])[r]?) := fun r hr => by
    rw [HB.out.cell (p := ⟨b, f + i * 2 + r, none⟩) hbN]
    exact HR.out i hiL r hr
   obtain ⟨d, hd⟩ : ∃ d, d = L[i] := ⟨_, rfl⟩
   rw [← hd] at HS HLK HCC
   clear hd
   have HCD : Hid ((fun d0 => chk d0) d = chk d) := rfl
   obtain ⟨cd, hcd⟩ : ∃ cd, cd = chk d := ⟨_, rfl⟩
   rw [← hcd] at HS HLK
   clear hcd HCD
   obtain ⟨y1, s1⟩ := d
   have e0 : wr.cell? ⟨b, f + i * 2, none⟩ = some (.int .i64 y1) := HCC.out 0 (by omega)
   have e1 : wr.cell? ⟨b, f + i * 2 + 1, none⟩ = some (.string s1) := HCC.out 1 (by omega)
   have hc := HK.out.c
   have hKs := HK.out.lt
   have hbK : b ≠ K := by omega
   generalize hee : fstE a1 (frst chk (L.take i)) = ee at HK HST hc
   have HEE : Hid (fstE a1 (frst chk (L.take i)) = ee) := hee
   clear hee
   by_cases h0 : ee = 0
   ·subst h0
    have hs0 : (wr.alloc (.cells #[.int .i64 0, .string ⟨#[]⟩] 129)).heap.size = wr.heap.size + 1 := by simp
    have hKn : K ≠ wr.heap.size := by omega
    have hbn : b ≠ wr.heap.size := by
     have := HB.out.size
     have h2 := HK.out.lt
     omega
    have HBA : Hid (Below N w0 (wr.alloc (.cells #[.int .i64 y1, .string s1] 129))) := HB.out.alloc (by have := HB.out.size; omega) _
    have HKA : Hid (CK (wr.alloc (.cells #[.int .i64 y1, .string s1] 129)) K 0) := HK.out.under ((Below.refl _ _).alloc (Nat.le_refl _) _)
    have hKn2 : wr.heap.size ≠ K := fun e => hKn e.symm
    have HSW : Hid (N ≤ ((wr.alloc (.cells #[.int .i64 y1, .string s1] 129))).heap.size) := by
     have h4 := HK.out.lt
     unfold Hid
     simp
     omega
    go_wp2_with fail
    refine (HLK.out _ _ HKA.out HBA.out HSW.out).mono ?_
    rintro r w2 ⟨rfl, hk2, hb2⟩
    have HK2 : Hid (CK w2 K (fstE a1 (frst chk (L.take (i + 1))))) := by
     unfold Hid
     rw [HS.out, ← fstE_assoc, HEE.out]
     exact hk2
    have HB2 : Hid (Chg K w w2) := HCg.out.trans ((Chg.of_below ((Below.refl _ _).alloc (Nat.le_refl _) _)).trans hb2)
    clear hk2 hb2 HK HB HCg HLK HCC HS HST HEE HKA HBA HSW
    go_wp2
    go_roundw
    case rel => exact ⟨i + 1, by go_num, by omega, HK2, HB2⟩
    case measure => simp [intOf]; omega
   ·have hb0 : (ee == 0) = false := by rw [beq_eq_false_iff_ne]; exact h0
    have hn0 : (ee != 0) = true := by rw [bne, hb0]; rfl
    have HH0 : Hid (ee ≠ 0) := h0
    have hKn : K ≠ wr.heap.size := by omega
    have hKn2 : wr.heap.size ≠ K := by omega
    have HBA : Hid (Below N w0 (wr.alloc (.cells #[.int .i64 y1, .string s1] 129))) := HB.out.alloc (by have := HB.out.size; omega) _
    have HKA : Hid (CK (wr.alloc (.cells #[.int .i64 y1, .string s1] 129)) K ee) := HK.out.under ((Below.refl _ _).alloc (Nat.le_refl _) _)
    clear h0
    go_wp2
    go_end0
    exact ⟨rfl, by rw [HE.out, HST.out HH0.out]; exact HKA.out, HCg.out.trans (Chg.of_below ((Below.refl _ _).alloc (Nat.le_refl _) _))⟩
  ·have HKF : Hid (CK wr K (fstE a1 (frst chk L))) := by
    have h1 := HK.out
    rw [List.take_of_length_le (by rw [HL.out]; omega)] at h1
    exact h1
   clear HK
   go_wp2
   go_end0
   exact ⟨rfl, by rw [HE.out]; exact HKF.out, HCg.out⟩
theorem each_kin (K N : Nat) (w0 w : World) (most a : Int) (chk : Int → Int) (L : List Int) (o : Option Addr) (n cap : Nat) (hn : L.length = n) (hcap : n ≤ cap) (hmax : cap ≤ maxLen)
  (hr : L = [] ∨ ∃ b f, o = some ⟨b, f, none⟩ ∧ b < N ∧ ∀ i (h : i < L.length) r, r < 1 → w0.cell? ⟨b, f + i * 1 + r, none⟩ = ([Value.int .u8 L[i]])[r]?)
  (h : CK w K a) (hb : Below N w0 w) (hNK : N ≤ K) (hNw : N ≤ w.heap.size)
  (HLOOK : Hid (∀ d ∈ L, ∀ w' a', CK w' K a' → Below N w0 w' → N ≤ w'.heap.size → Calls Tryz.prog 154 #[.pointer (some ⟨K, 0, none⟩), .int .u8 d] w' (CkOut K w' (fstE a' (chk d))))) :
  Calls Tryz.prog 153 #[.pointer (some ⟨K, 0, none⟩), .slice o n cap, .int .i64 most, .func (.func 154) #[.pointer (some ⟨K, 0, none⟩)] #[]] w (CkOut K w (fstE a (chkL most chk L))) := by
 unfold maxLen at hmax
 have HN : Hid (type_of% (need_any K w a 2 (decide ((n : Int) ≤ most)) h)) := need_any K w a 2 (decide ((n : Int) ≤ most)) h
 have HBW : Hid (Below N w0 w) := hb
 have HL : Hid (L.length = n) := hn
 have HSZ : Hid (N ≤ w.heap.size) := hNw
 rcases hr with rfl | ⟨b, f, rfl, hbN, hcells⟩
 ·have hn0 : n = 0 := by rw [← hn]; rfl
  subst hn0
  clear h hb hn hNw
  have HE0 : Hid (fstE a (chkL most chk []) = fstE a (okE (decide (((0 : Nat) : Int) ≤ most)) 2)) := by
   unfold Hid chkL frst
   rw [fstE_right]
   rfl
  go_enter Tryz.func153, Tryz.ntmps153
  go_wp2_with fail
  refine HN.out.mono ?_
  rintro r w1 ⟨rfl, hk1, hb1⟩
  rw [← HE0.out] at hk1
  have HK1 : Hid (type_of% hk1) := hk1
  have HB1 : Hid (Chg K w w1) := hb1
  clear hk1 hb1 HN
  go_wp2
  go_loopw [18] (fun iv wr => iv = .int .i64 0 ∧ Hid (CK wr K (fstE a (chkL most chk []))) ∧ Hid (Chg K w wr)) (fun _ _ => 0)
  case atStart => exact ⟨rfl, HK1, HB1⟩
  case round =>
   obtain ⟨rfl, HK, HB⟩ := hrel
   go_wp2
   go_end0
   exact ⟨rfl, HK.out, HB.out⟩
 have HR : Hid (type_of% hcells) := hcells
 clear h hb hcells hn hNw
 go_enter Tryz.func153, Tryz.ntmps153
 go_wp2_with fail
 refine HN.out.mono ?_
 rintro r w1 ⟨rfl, hk1, hb1⟩
 obtain ⟨a1, ha1⟩ : ∃ a1, a1 = fstE a (okE (decide ((n : Int) ≤ most)) 2) := ⟨_, rfl⟩
 rw [← ha1] at hk1
 have HE : Hid (fstE a (chkL most chk L) = fstE a1 (frst chk L)) := by
  unfold Hid chkL
  rw [ha1, fstE_assoc, HL.out]
 have HK1 : Hid (CK w1 K a1) := hk1
 have HB1 : Hid (Chg K w w1) := hb1
 clear hk1 hb1 HN ha1
 go_wp2
 go_loopw [18] (fun iv wr => ∃ i : Nat, iv = .int .i64 (i : Int) ∧ i ≤ n ∧ Hid (CK wr K (fstE a1 (frst chk (L.take i)))) ∧ Hid (Chg K w wr)) (fun iv _ => n - (intOf iv).toNat)
 case atStart => exact ⟨0, rfl, by omega, by unfold Hid; rw [List.take_zero, frst, fstE_right]; exact HK1.out, HB1⟩
 case round =>
  obtain ⟨i, rfl, hin, HK, HCg⟩ := hrel
  have HB : Hid (Below N w0 wr) := below_chg HBW.out HCg.out hNK HSZ.out
  clear HK1 HB1
  by_cases hlt : i < n
  ·have hiL : i < L.length := by rw [HL.out]; exact hlt
   have hi0 : (0 : Int) ≤ (i : Int) := by omega
   have hi1 : (i : Int) < (n : Int) := by omega
   have HS : Hid (frst chk (L.take (i + 1)) = fstE (frst chk (L.take i)) (chk L[i])) := frst_snoc chk L i hiL
   have HST : Hid (fstE a1 (frst chk (L.take i)) ≠ 0 → fstE a1 (frst chk L) = fstE a1 (frst chk (L.take i))) := frst_stop a1 chk L i
   have HLK : Hid (type_of% (HLOOK.out L[i] (List.getElem_mem hiL))) := HLOOK.out L[i] (List.getElem_mem hiL)
   have HCC : Hid (∀ r, r < 1 → wr.cell? ⟨b, f + i * 1 + r, none⟩ = ([Value.int .u8 L[i]])[r]?) := fun r hr => by
    rw [HB.out.cell (p := ⟨b, f + i * 1 + r, none⟩) hbN]
    exact HR.out i hiL r hr
   obtain ⟨d, hd⟩ : ∃ d, d = L[i] := ⟨_, rfl⟩
   rw [← hd] at HS HLK HCC
   clear hd
   have e0 : wr.cell? ⟨b, f + i * 1, none⟩ = some (.int .u8 d) := HCC.out 0 (by omega)
   have HD1 : Hid (f + i * 1 = f + i) := by unfold Hid; omega
   rw [HD1.out] at e0
   have hc := HK.out.c
   have hKs := HK.out.lt
   have hbK : b ≠ K := by omega
   generalize hee : fstE a1 (frst chk (L.take i)) = ee at HK HST hc
   have HEE : Hid (fstE a1 (frst chk (L.take i)) = ee) := hee
   clear hee
   by_cases h0 : ee = 0
   ·subst h0
    go_wp2_with fail
    refine (HLK.out _ _ HK.out HB.out (by have := HB.out.size; have h2 := HK.out.lt; omega)).mono ?_
    rintro r w2 ⟨rfl, hk2, hb2⟩
    have HK2 : Hid (CK w2 K (fstE a1 (frst chk (L.take (i + 1))))) := by
     unfold Hid
     rw [HS.out, ← fstE_assoc, HEE.out]
     exact hk2
    have HB2 : Hid (Chg K w w2) := HCg.out.trans hb2
    clear hk2 hb2 HK HB HCg HLK HCC HS HST HEE
    go_wp2
    go_roundw
    case rel => exact ⟨i + 1, by go_num, by omega, HK2, HB2⟩
    case measure => simp [intOf]; omega
   ·have hb0 : (ee == 0) = false := by rw [beq_eq_false_iff_ne]; exact h0
    have hn0 : (ee != 0) = true := by rw [bne, hb0]; rfl
    have HH0 : Hid (ee ≠ 0) := h0
    clear h0
    go_wp2
    go_end0
    exact ⟨rfl, by rw [HE.out, HST.out HH0.out]; exact HK.out, HCg.out⟩
  ·have HKF : Hid (CK wr K (fstE a1 (frst chk L))) := by
    have h1 := HK.out
    rw [List.take_of_length_le (by rw [HL.out]; omega)] at h1
    exact h1
   clear HK
   go_wp2
   go_end0
   exact ⟨rfl, by rw [HE.out]; exact HKF.out, HCg.out⟩
theorem each_int (K N : Nat) (w0 w : World) (most a : Int) (chk : Int → Int) (L : List Int) (o : Option Addr) (n cap : Nat) (hn : L.length = n) (hcap : n ≤ cap) (hmax : cap ≤ maxLen)
  (hr : L = [] ∨ ∃ b f, o = some ⟨b, f, none⟩ ∧ b < N ∧ ∀ i (h : i < L.length) r, r < 1 → w0.cell? ⟨b, f + i * 1 + r, none⟩ = ([Value.int .i64 L[i]])[r]?)
  (h : CK w K a) (hb : Below N w0 w) (hNK : N ≤ K) (hNw : N ≤ w.heap.size)
  (HLOOK : Hid (∀ d ∈ L, ∀ w' a', CK w' K a' → Below N w0 w' → N ≤ w'.heap.size → Calls Tryz.prog 123 #[.pointer (some ⟨K, 0, none⟩), .int .i64 d] w' (CkOut K w' (fstE a' (chk d))))) :
  Calls Tryz.prog 157 #[.pointer (some ⟨K, 0, none⟩), .slice o n cap, .int .i64 most, .func (.func 123) #[.pointer (some ⟨K, 0, none⟩)] #[]] w (CkOut K w (fstE a (chkL most chk L))) := by
 unfold maxLen at hmax
 have HN : Hid (type_of% (need_any K w a 2 (decide ((n : Int) ≤ most)) h)) := need_any K w a 2 (decide ((n : Int) ≤ most)) h
 have HBW : Hid (Below N w0 w) := hb
 have HL : Hid (L.length = n) := hn
 have HSZ : Hid (N ≤ w.heap.size) := hNw
 rcases hr with rfl | ⟨b, f, rfl, hbN, hcells⟩
 ·have hn0 : n = 0 := by rw [← hn]; rfl
  subst hn0
  clear h hb hn hNw
  have HE0 : Hid (fstE a (chkL most chk []) = fstE a (okE (decide (((0 : Nat) : Int) ≤ most)) 2)) := by
   unfold Hid chkL frst
   rw [fstE_right]
   rfl
  go_enter Tryz.func157, Tryz.ntmps157
  go_wp2_with fail
  refine HN.out.mono ?_
  rintro r w1 ⟨rfl, hk1, hb1⟩
  rw [← HE0.out] at hk1
  have HK1 : Hid (type_of% hk1) := hk1
  have HB1 : Hid (Chg K w w1) := hb1
  clear hk1 hb1 HN
  go_wp2
  go_loopw [18] (fun iv wr => iv = .int .i64 0 ∧ Hid (CK wr K (fstE a (chkL most chk []))) ∧ Hid (Chg K w wr)) (fun _ _ => 0)
  case atStart => exact ⟨rfl, HK1, HB1⟩
  case round =>
   obtain ⟨rfl, HK, HB⟩ := hrel
   go_wp2
   go_end0
   exact ⟨rfl, HK.out, HB.out⟩
 have HR : Hid (type_of% hcells) := hcells
 clear h hb hcells hn hNw
 go_enter Tryz.func157, Tryz.ntmps157
 go_wp2_with fail
 refine HN.out.mono ?_
 rintro r w1 ⟨rfl, hk1, hb1⟩
 obtain ⟨a1, ha1⟩ : ∃ a1, a1 = fstE a (okE (decide ((n : Int) ≤ most)) 2) := ⟨_, rfl⟩
 rw [← ha1] at hk1
 have HE : Hid (fstE a (chkL most chk L) = fstE a1 (frst chk L)) := by
  unfold Hid chkL
  rw [ha1, fstE_assoc, HL.out]
 have HK1 : Hid (CK w1 K a1) := hk1
 have HB1 : Hid (Chg K w w1) := hb1
 clear hk1 hb1 HN ha1
 go_wp2
 go_loopw [18] (fun iv wr => ∃ i : Nat, iv = .int .i64 (i : Int) ∧ i ≤ n ∧ Hid (CK wr K (fstE a1 (frst chk (L.take i)))) ∧ Hid (Chg K w wr)) (fun iv _ => n - (intOf iv).toNat)
 case atStart => exact ⟨0, rfl, by omega, by unfold Hid; rw [List.take_zero, frst, fstE_right]; exact HK1.out, HB1⟩
 case round =>
  obtain ⟨i, rfl, hin, HK, HCg⟩ := hrel
  have HB : Hid (Below N w0 wr) := below_chg HBW.out HCg.out hNK HSZ.out
  clear HK1 HB1
  by_cases hlt : i < n
  ·have hiL : i < L.length := by rw [HL.out]; exact hlt
   have hi0 : (0 : Int) ≤ (i : Int) := by omega
   have hi1 : (i : Int) < (n : Int) := by omega
   have HS : Hid (frst chk (L.take (i + 1)) = fstE (frst chk (L.take i)) (chk L[i])) := frst_snoc chk L i hiL
   have HST : Hid (fstE a1 (frst chk (L.take i)) ≠ 0 → fstE a1 (frst chk L) = fstE a1 (frst chk (L.take i))) := frst_stop a1 chk L i
   have HLK : Hid (type_of% (HLOOK.out L[i] (List.getElem_mem hiL))) := HLOOK.out L[i] (List.getElem_mem hiL)
   have HCC : Hid (∀ r, r < 1 → wr.cell? ⟨b, f + i * 1 + r, none⟩ = ([Value.int .i64 L[i]])[r]?) := fun r hr => by
    rw [HB.out.cell (p := ⟨b, f + i * 1 + r, none⟩) hbN]
    exact HR.out i hiL r hr
   obtain ⟨d, hd⟩ : ∃ d, d = L[i] := ⟨_, rfl⟩
   rw [← hd] at HS HLK HCC
   clear hd
   have e0 : wr.cell? ⟨b, f + i * 1, none⟩ = some (.int .i64 d) := HCC.out 0 (by omega)
   have HD1 : Hid (f + i * 1 = f + i) := by unfold Hid; omega
   rw [HD1.out] at e0
   have hc := HK.out.c
   have hKs := HK.out.lt
   have hbK : b ≠ K := by omega
   generalize hee : fstE a1 (frst chk (L.take i)) = ee at HK HST hc
   have HEE : Hid (fstE a1 (frst chk (L.take i)) = ee) := hee
   clear hee
   by_cases h0 : ee = 0
   ·subst h0
    go_wp2_with fail
    refine (HLK.out _ _ HK.out HB.out (by have := HB.out.size; have h2 := HK.out.lt; omega)).mono ?_
    rintro r w2 ⟨rfl, hk2, hb2⟩
    have HK2 : Hid (CK w2 K (fstE a1 (frst chk (L.take (i + 1))))) := by
     unfold Hid
     rw [HS.out, ← fstE_assoc, HEE.out]
     exact hk2
    have HB2 : Hid (Chg K w w2) := HCg.out.trans hb2
    clear hk2 hb2 HK HB HCg HLK HCC HS HST HEE
    go_wp2
    go_roundw
    case rel => exact ⟨i + 1, by go_num, by omega, HK2, HB2⟩
    case measure => simp [intOf]; omega
   ·have hb0 : (ee == 0) = false := by rw [beq_eq_false_iff_ne]; exact h0
    have hn0 : (ee != 0) = true := by rw [bne, hb0]; rfl
    have HH0 : Hid (ee ≠ 0) := h0
    clear h0
    go_wp2
    go_end0
    exact ⟨rfl, by rw [HE.out, HST.out HH0.out]; exact HK.out, HCg.out⟩
  ·have HKF : Hid (CK wr K (fstE a1 (frst chk L))) := by
    have h1 := HK.out
    rw [List.take_of_length_le (by rw [HL.out]; omega)] at h1
    exact h1
   clear HK
   go_wp2
   go_end0
   exact ⟨rfl, by rw [HE.out]; exact HKF.out, HCg.out⟩
end Go.Proofs.YtlfihndbnaaodaaGreatDoor
namespace Go.Proofs.YtlfihndbnaaodaaGreatDoor
set_option linter.unusedVariables false
open Go.RowKit
def chkKind (k : Int) : Int := okE (isK k) 1
def numOk (n : Int) : Bool := decide (0 ≤ n) && decide (n ≤ 4294967295)
def chkNum (n : Int) : Int := okE (numOk n) 1
def s32 (n : Int) : Bool := decide (-2147483648 ≤ n) && decide (n ≤ 2147483647)
def chkName (s : List Int) : Int := if 16 < s.length then 2 else okE (okName s) 4
def chkSig (d : SigD) : Int := fstE (chkL 4 chkKind d.i.xs) (chkL 1 chkKind d.r.xs)
def chkNam (d : NamD) : Int := fstE (chkName (nums d.s)) (chkNum d.n)
def chkFun (d : FunD) : Int := fstE (fstE (chkNum d.t) (chkL 16 chkKind d.l.xs)) (okE (nChk d.b == 0) (nChk d.b))
def chkGlo (d : GloD) : Int := fstE (chkKind d.k) (okE (d.k == 126 || s32 d.s) 1)
def chkEle (d : EleD) : Int := fstE (okE (s32 d.a) 1) (chkL 16 chkNum d.f.xs)
def chkDat (d : DatD) : Int := fstE (okE (s32 d.a) 1) (okE (decide ((d.s.size : Int) ≤ 64)) 2)
theorem ckind (K : Nat) (w : World) (a k : Int) (h : CK w K a) :
  Calls Tryz.prog 154 #[.pointer (some ⟨K, 0, none⟩), .int .u8 k] w (CkOut K w (fstE a (chkKind k))) := by
 have HN : Hid (type_of% (need_any K w a 1 (isK k) h)) := need_any K w a 1 (isK k) h
 clear h
 go_enter Tryz.func154, Tryz.ntmps154
 go_wp2_with fail
 refine (isKind_any k _).mono ?_
 rintro r w ⟨rfl, rfl⟩
 go_wp2_with fail
 refine HN.out.mono ?_
 rintro r w1 ⟨rfl, h1, c1⟩
 have H1 : Hid (type_of% h1) := h1
 clear h1
 go_wp2
 go_end0
 exact ⟨rfl, H1.out, c1⟩
theorem cnumber (K : Nat) (w : World) (a n : Int) (h : CK w K a) :
  Calls Tryz.prog 123 #[.pointer (some ⟨K, 0, none⟩), .int .i64 n] w (CkOut K w (fstE a (chkNum n))) := by
 have HN : Hid (type_of% (need_any K w a 1 (numOk n) h)) := need_any K w a 1 (numOk n) h
 unfold numOk at HN
 clear h
 rcases h0 : (decide (0 ≤ n) : Bool) with _ | _
 ·rw [h0, Bool.false_and] at HN
  have HE : Hid (chkNum n = okE false 1) := by unfold Hid chkNum numOk; rw [h0]; rfl
  rw [HE.out]
  go_enter Tryz.func123, Tryz.ntmps123
  go_wp2_with fail
  refine HN.out.mono ?_
  rintro r w1 ⟨rfl, h1, c1⟩
  have H1 : Hid (type_of% h1) := h1
  clear h1
  go_wp2
  go_end0
  exact ⟨rfl, H1.out, c1⟩
 ·rw [h0, Bool.true_and] at HN
  have HE : Hid (chkNum n = okE (decide (n ≤ 4294967295)) 1) := by unfold Hid chkNum numOk; rw [h0]; rfl
  rw [HE.out]
  go_enter Tryz.func123, Tryz.ntmps123
  go_wp2_with fail
  refine HN.out.mono ?_
  rintro r w1 ⟨rfl, h1, c1⟩
  have H1 : Hid (type_of% h1) := h1
  clear h1
  go_wp2
  go_end0
  exact ⟨rfl, H1.out, c1⟩
theorem is32_any (n : Int) (w : World) : Calls Tryz.prog 156 #[.int .i64 n] w fun r w' => r = .returned (.bool (s32 n)) ∧ w' = w := by
 unfold s32
 rcases h0 : (decide (-2147483648 ≤ n) : Bool) with _ | _
 ·go_enter Tryz.func156, Tryz.ntmps156
  go_wp2
  go_ret
  exact ⟨rfl, rfl⟩
 ·go_enter Tryz.func156, Tryz.ntmps156
  go_wp2
  go_ret
  exact ⟨rfl, rfl⟩
theorem name_any (s : ByteArray) (w : World) (hA : Amb w) :
  Calls Tryz.prog 174 #[.string s] w fun r w' => Below w.heap.size w w' ∧ ∃ t, r = .returned (.tuple #[.string t, .int .i64 (chkName (nums s))]) ∧ (chkName (nums s) = 0 → nums t = tName (nums s)) := by
 have hU : Hid (Lib.Utf8Tabs 3 4 w) := hA.2.1
 have hl := nums_length s
 by_cases h : 16 < s.size
 ·refine (name_large s w (by omega)).mono ?_
  rintro r w' ⟨rfl, b⟩
  refine ⟨b, ⟨#[]⟩, ?_, ?_⟩
  ·unfold chkName; rw [if_pos (by omega)]
  ·unfold chkName; rw [if_pos (by omega)]; intro h; exact absurd h (by decide)
 ·have e : chkName (nums s) = okE (Lib.validD s.data.toList) 4 := by unfold chkName; rw [if_neg (by omega), okName_nums]
  cases hv : Lib.validD s.data.toList with
  | false =>
   refine (name_bad valid_c s w (by omega) hv hU).mono ?_
   rintro r w' ⟨rfl, b⟩
   rw [e, hv]
   exact ⟨b, _, rfl, fun h => absurd h (by decide)⟩
  | true =>
   refine (name_ok valid_c s _ w (by omega) hv hU rfl).mono ?_
   rintro r w' ⟨rfl, b⟩
   rw [e, hv]
   refine ⟨b, _, rfl, fun _ => ?_⟩
   rw [nums_append, nums_str (by intro b hb; simp at hb; omega)]
   unfold tName
   rw [uB_lo (by omega), hl]
theorem cname (K : Nat) (w : World) (a : Int) (s : ByteArray) (h : CK w K a) (hA : Amb w) :
  Calls Tryz.prog 155 #[.pointer (some ⟨K, 0, none⟩), .string s] w (CkOut K w (fstE a (chkName (nums s)))) := by
 have HK : Hid (CK w K a) := h
 have HA : Hid (Amb w) := hA
 clear h hA
 have HE : Hid (fstE a (okE (chkName (nums s) == 0) (chkName (nums s))) = fstE a (chkName (nums s))) := by
  unfold Hid okE
  by_cases h0 : chkName (nums s) = 0
  ·rw [h0]; rfl
  ·rw [if_neg (by simpa using h0)]
 go_enter Tryz.func155, Tryz.ntmps155
 go_wp2_with fail
 refine (name_any s _ HA.out).mono ?_
 rintro r w1 ⟨b1, t, rfl, _⟩
 obtain ⟨e, he⟩ : ∃ e, e = chkName (nums s) := ⟨_, rfl⟩
 have HEE : Hid (e = chkName (nums s)) := he
 rw [← he] at HE ⊢
 clear he
 go_wp2_with fail
 refine (need_any K _ a e (e == 0) (HK.out.under b1)).mono ?_
 rintro r w2 ⟨rfl, h2, c2⟩
 rw [HE.out] at h2
 have H2 : Hid (type_of% h2) := h2
 clear h2
 go_wp2
 go_end0
 exact ⟨rfl, by rw [← HEE.out]; exact H2.out, (Chg.of_below b1).trans c2⟩
theorem NumD.ok.at1 {k : IntKind} {w0 : World} {d : NumD} {N : Nat} (h : d.ok k w0) (hN : w0.heap.size ≤ N) : d.xs = [] ∨ ∃ b f, d.o = some ⟨b, f, none⟩ ∧ b < N ∧ ∀ i (h : i < d.xs.length) r, r < 1 → w0.cell? ⟨b, f + i * 1 + r, none⟩ = ([Value.int k d.xs[i]])[r]? := by
 rcases h.at' with h0 | ⟨a, h1, h2, h3⟩
 ·left
  have := h.len
  rw [h0] at this
  exact List.length_eq_zero_iff.1 this
 ·rcases Nat.eq_zero_or_pos d.n with h0 | h0
  ·left
   have := h.len
   rw [h0] at this
   exact List.length_eq_zero_iff.1 this
  ·right
   obtain ⟨b, f, sp⟩ := a
   have hc0 := h3 0 h0
   have hsp : sp = none := by simpa [Addr.add] using World.cell?_spot hc0
   subst hsp
   refine ⟨b, f, h1, by have h2 : b < w0.heap.size := h2; omega, fun i hi r hr => ?_⟩
   obtain rfl : r = 0 := by omega
   have hadd : (⟨b, f, none⟩ : Addr).add i = ⟨b, f + i, none⟩ := by unfold Addr.add; split <;> simp_all
   have := h3 i (by rw [← h.len]; exact hi)
   rw [hadd] at this
   rw [Nat.mul_one, Nat.add_zero, this, List.getD_eq_getElem?_getD, List.getElem?_eq_getElem hi]
   rfl
theorem look_kind (K N : Nat) (w0 : World) (L : List Int) : ∀ d ∈ L, ∀ w' a', CK w' K a' → Below N w0 w' → N ≤ w'.heap.size → Calls Tryz.prog 154 #[.pointer (some ⟨K, 0, none⟩), .int .u8 d] w' (CkOut K w' (fstE a' (chkKind d))) := fun d _ w' a' h _ _ => ckind K w' a' d h
theorem look_num (K N : Nat) (w0 : World) (L : List Int) : ∀ d ∈ L, ∀ w' a', CK w' K a' → Below N w0 w' → N ≤ w'.heap.size → Calls Tryz.prog 123 #[.pointer (some ⟨K, 0, none⟩), .int .i64 d] w' (CkOut K w' (fstE a' (chkNum d))) := fun d _ w' a' h _ _ => cnumber K w' a' d h
theorem csig (K N : Nat) (w0 w : World) (a : Int) (i r : NumD) (h : CK w K a) (hb : Below N w0 w) (hNK : N ≤ K) (hNw : N ≤ w.heap.size) (hA0 : Amb w0) (hN4 : 5 ≤ N) (hN0 : w0.heap.size ≤ N) (hi : i.ok .u8 w0) (hr : r.ok .u8 w0) :
  Calls Tryz.prog 113 #[.pointer (some ⟨K, 0, none⟩), .agg #[.slice i.o i.n i.cap, .slice r.o r.n r.cap]] w (CkOut K w (fstE a (chkSig ⟨i, r⟩))) := by
 have hKw := h.lt
 have bA : Below w.heap.size w (w.alloc (.cells #[.slice i.o i.n i.cap, .slice r.o r.n r.cap] 83)) := (Below.refl _ _).alloc (Nat.le_refl _) _
 have HK : Hid (CK (w.alloc (.cells #[.slice i.o i.n i.cap, .slice r.o r.n r.cap] 83)) K a) := h.under bA
 have HC : Hid (Chg K w (w.alloc (.cells #[.slice i.o i.n i.cap, .slice r.o r.n r.cap] 83))) := Chg.of_below bA
 have HBW : Hid (Below N w0 w) := hb
 have HA0 : Hid (Amb w0) := hA0
 have xQ : X2 83 (w.alloc (.cells #[.slice i.o i.n i.cap, .slice r.o r.n r.cap] 83)) w.heap.size (.slice i.o i.n i.cap) (.slice r.o r.n r.cap) := new_block _ _
 have hQK : w.heap.size ≠ K := by omega
 have Hi : Hid (i.ok .u8 w0) := hi
 have Hr : Hid (r.ok .u8 w0) := hr
 clear hi hr
 clear h hb bA hA0
 go_enter Tryz.func113, Tryz.ntmps113
 go_wp2_with fail
 refine (each_kin K N w0 _ 4 _ chkKind i.xs i.o i.n i.cap Hi.out.len Hi.out.le Hi.out.most (Hi.out.at1 hN0) HK.out (below_chg HBW.out HC.out hNK hNw) hNK (Nat.le_trans hNw HC.out.size) (look_kind K N w0 i.xs)).mono ?_
 rintro r w1 ⟨rfl, hk, c⟩
 have xQ1 := xQ.chg c hQK
 clear xQ
 have xQ := xQ1
 have HC1 : Hid (Chg K w w1) := HC.out.trans c
 clear HC
 have HC : Hid (Chg K w w1) := HC1.out
 clear HK
 have HK : Hid (CK w1 K (fstE a (chkL 4 chkKind i.xs))) := hk
 clear hk c HC1 xQ1
 obtain ⟨z10, z11⟩ := xQ.cell
 go_wp2_with fail
 refine (each_kin K N w0 _ 1 _ chkKind r.xs r.o r.n r.cap Hr.out.len Hr.out.le Hr.out.most (Hr.out.at1 hN0) HK.out (below_chg HBW.out HC.out hNK hNw) hNK (Nat.le_trans hNw HC.out.size) (look_kind K N w0 r.xs)).mono ?_
 rintro r w2 ⟨rfl, hk, c⟩
 have xQ1 := xQ.chg c hQK
 clear xQ
 have xQ := xQ1
 have HC1 : Hid (Chg K w w2) := HC.out.trans c
 clear HC
 have HC : Hid (Chg K w w2) := HC1.out
 clear HK
 have HK : Hid (CK w2 K (fstE (fstE a (chkL 4 chkKind i.xs)) (chkL 1 chkKind r.xs))) := hk
 clear hk c HC1 xQ1
 obtain ⟨z20, z21⟩ := xQ.cell
 go_wp2
 go_end0
 refine ⟨rfl, ?_, HC.out⟩
 have := HK.out
 unfold chkSig
 dsimp only
 rw [fstE_assoc] at this
 exact this
theorem cimported (K N : Nat) (w0 w : World) (a : Int) (s : ByteArray) (n : Int) (h : CK w K a) (hb : Below N w0 w) (hNK : N ≤ K) (hNw : N ≤ w.heap.size) (hA0 : Amb w0) (hN4 : 5 ≤ N) :
  Calls Tryz.prog 115 #[.pointer (some ⟨K, 0, none⟩), .agg #[.string s, .int .i64 n]] w (CkOut K w (fstE a (chkNam ⟨s, n⟩))) := by
 have hKw := h.lt
 have bA : Below w.heap.size w (w.alloc (.cells #[.string s, .int .i64 n] 92)) := (Below.refl _ _).alloc (Nat.le_refl _) _
 have HK : Hid (CK (w.alloc (.cells #[.string s, .int .i64 n] 92)) K a) := h.under bA
 have HC : Hid (Chg K w (w.alloc (.cells #[.string s, .int .i64 n] 92))) := Chg.of_below bA
 have HBW : Hid (Below N w0 w) := hb
 have HA0 : Hid (Amb w0) := hA0
 have xQ : X2 92 (w.alloc (.cells #[.string s, .int .i64 n] 92)) w.heap.size (.string s) (.int .i64 n) := new_block _ _
 have hQK : w.heap.size ≠ K := by omega
 clear h hb bA hA0
 go_enter Tryz.func115, Tryz.ntmps115
 go_wp2_with fail
 refine (cname K _ _ s HK.out ((HA0.out.to ((below_chg HBW.out HC.out hNK hNw).mono hN4)))).mono ?_
 rintro r w1 ⟨rfl, hk, c⟩
 have xQ1 := xQ.chg c hQK
 clear xQ
 have xQ := xQ1
 have HC1 : Hid (Chg K w w1) := HC.out.trans c
 clear HC
 have HC : Hid (Chg K w w1) := HC1.out
 clear HK
 have HK : Hid (CK w1 K (fstE a (chkName (nums s)))) := hk
 clear hk c HC1 xQ1
 obtain ⟨z10, z11⟩ := xQ.cell
 go_wp2_with fail
 refine (cnumber K _ _ n HK.out).mono ?_
 rintro r w2 ⟨rfl, hk, c⟩
 have xQ1 := xQ.chg c hQK
 clear xQ
 have xQ := xQ1
 have HC1 : Hid (Chg K w w2) := HC.out.trans c
 clear HC
 have HC : Hid (Chg K w w2) := HC1.out
 clear HK
 have HK : Hid (CK w2 K (fstE (fstE a (chkName (nums s))) (chkNum n))) := hk
 clear hk c HC1 xQ1
 obtain ⟨z20, z21⟩ := xQ.cell
 go_wp2
 go_end0
 refine ⟨rfl, ?_, HC.out⟩
 have := HK.out
 unfold chkNam
 dsimp only
 rw [fstE_assoc] at this
 exact this
theorem cexport (K N : Nat) (w0 w : World) (a : Int) (s : ByteArray) (n : Int) (h : CK w K a) (hb : Below N w0 w) (hNK : N ≤ K) (hNw : N ≤ w.heap.size) (hA0 : Amb w0) (hN4 : 5 ≤ N) :
  Calls Tryz.prog 122 #[.pointer (some ⟨K, 0, none⟩), .agg #[.string s, .int .i64 n]] w (CkOut K w (fstE a (chkNam ⟨s, n⟩))) := by
 have hKw := h.lt
 have bA : Below w.heap.size w (w.alloc (.cells #[.string s, .int .i64 n] 95)) := (Below.refl _ _).alloc (Nat.le_refl _) _
 have HK : Hid (CK (w.alloc (.cells #[.string s, .int .i64 n] 95)) K a) := h.under bA
 have HC : Hid (Chg K w (w.alloc (.cells #[.string s, .int .i64 n] 95))) := Chg.of_below bA
 have HBW : Hid (Below N w0 w) := hb
 have HA0 : Hid (Amb w0) := hA0
 have xQ : X2 95 (w.alloc (.cells #[.string s, .int .i64 n] 95)) w.heap.size (.string s) (.int .i64 n) := new_block _ _
 have hQK : w.heap.size ≠ K := by omega
 clear h hb bA hA0
 go_enter Tryz.func122, Tryz.ntmps122
 go_wp2_with fail
 refine (cname K _ _ s HK.out ((HA0.out.to ((below_chg HBW.out HC.out hNK hNw).mono hN4)))).mono ?_
 rintro r w1 ⟨rfl, hk, c⟩
 have xQ1 := xQ.chg c hQK
 clear xQ
 have xQ := xQ1
 have HC1 : Hid (Chg K w w1) := HC.out.trans c
 clear HC
 have HC : Hid (Chg K w w1) := HC1.out
 clear HK
 have HK : Hid (CK w1 K (fstE a (chkName (nums s)))) := hk
 clear hk c HC1 xQ1
 obtain ⟨z10, z11⟩ := xQ.cell
 go_wp2_with fail
 refine (cnumber K _ _ n HK.out).mono ?_
 rintro r w2 ⟨rfl, hk, c⟩
 have xQ1 := xQ.chg c hQK
 clear xQ
 have xQ := xQ1
 have HC1 : Hid (Chg K w w2) := HC.out.trans c
 clear HC
 have HC : Hid (Chg K w w2) := HC1.out
 clear HK
 have HK : Hid (CK w2 K (fstE (fstE a (chkName (nums s))) (chkNum n))) := hk
 clear hk c HC1 xQ1
 obtain ⟨z20, z21⟩ := xQ.cell
 go_wp2
 go_end0
 refine ⟨rfl, ?_, HC.out⟩
 have := HK.out
 unfold chkNam
 dsimp only
 rw [fstE_assoc] at this
 exact this
theorem celem (K N : Nat) (w0 w : World) (a : Int) (x : Int) (f : NumD) (h : CK w K a) (hb : Below N w0 w) (hNK : N ≤ K) (hNw : N ≤ w.heap.size) (hA0 : Amb w0) (hN4 : 5 ≤ N) (hN0 : w0.heap.size ≤ N) (hf : f.ok .i64 w0) :
  Calls Tryz.prog 125 #[.pointer (some ⟨K, 0, none⟩), .agg #[.int .i64 x, .slice f.o f.n f.cap]] w (CkOut K w (fstE a (chkEle ⟨x, f⟩))) := by
 have hKw := h.lt
 have bA : Below w.heap.size w (w.alloc (.cells #[.int .i64 x, .slice f.o f.n f.cap] 99)) := (Below.refl _ _).alloc (Nat.le_refl _) _
 have HK : Hid (CK (w.alloc (.cells #[.int .i64 x, .slice f.o f.n f.cap] 99)) K a) := h.under bA
 have HC : Hid (Chg K w (w.alloc (.cells #[.int .i64 x, .slice f.o f.n f.cap] 99))) := Chg.of_below bA
 have HBW : Hid (Below N w0 w) := hb
 have HA0 : Hid (Amb w0) := hA0
 have xQ : X2 99 (w.alloc (.cells #[.int .i64 x, .slice f.o f.n f.cap] 99)) w.heap.size (.int .i64 x) (.slice f.o f.n f.cap) := new_block _ _
 have hQK : w.heap.size ≠ K := by omega
 have Hf : Hid (f.ok .i64 w0) := hf
 clear hf
 clear h hb bA hA0
 go_enter Tryz.func125, Tryz.ntmps125
 go_wp2_with fail
 refine (is32_any x _).mono ?_
 rintro r w9 ⟨rfl, rfl⟩
 go_wp2_with fail
 refine (need_any K _ _ 1 (s32 x) HK.out).mono ?_
 rintro r w1 ⟨rfl, hk, c⟩
 have xQ1 := xQ.chg c hQK
 clear xQ
 have xQ := xQ1
 have HC1 : Hid (Chg K w w1) := HC.out.trans c
 clear HC
 have HC : Hid (Chg K w w1) := HC1.out
 clear HK
 have HK : Hid (CK w1 K (fstE a (okE (s32 x) 1))) := hk
 clear hk c HC1 xQ1
 obtain ⟨z10, z11⟩ := xQ.cell
 go_wp2_with fail
 refine (each_int K N w0 _ 16 _ chkNum f.xs f.o f.n f.cap Hf.out.len Hf.out.le Hf.out.most (Hf.out.at1 hN0) HK.out (below_chg HBW.out HC.out hNK hNw) hNK (Nat.le_trans hNw HC.out.size) (look_num K N w0 f.xs)).mono ?_
 rintro r w2 ⟨rfl, hk, c⟩
 have xQ1 := xQ.chg c hQK
 clear xQ
 have xQ := xQ1
 have HC1 : Hid (Chg K w w2) := HC.out.trans c
 clear HC
 have HC : Hid (Chg K w w2) := HC1.out
 clear HK
 have HK : Hid (CK w2 K (fstE (fstE a (okE (s32 x) 1)) (chkL 16 chkNum f.xs))) := hk
 clear hk c HC1 xQ1
 obtain ⟨z20, z21⟩ := xQ.cell
 go_wp2
 go_end0
 refine ⟨rfl, ?_, HC.out⟩
 have := HK.out
 unfold chkEle
 dsimp only
 rw [fstE_assoc] at this
 exact this
theorem cdata (K N : Nat) (w0 w : World) (a : Int) (x : Int) (s : ByteArray) (h : CK w K a) (hb : Below N w0 w) (hNK : N ≤ K) (hNw : N ≤ w.heap.size) (hA0 : Amb w0) (hN4 : 5 ≤ N) :
  Calls Tryz.prog 127 #[.pointer (some ⟨K, 0, none⟩), .agg #[.int .i64 x, .string s]] w (CkOut K w (fstE a (chkDat ⟨x, s⟩))) := by
 have hKw := h.lt
 have bA : Below w.heap.size w (w.alloc (.cells #[.int .i64 x, .string s] 129)) := (Below.refl _ _).alloc (Nat.le_refl _) _
 have HK : Hid (CK (w.alloc (.cells #[.int .i64 x, .string s] 129)) K a) := h.under bA
 have HC : Hid (Chg K w (w.alloc (.cells #[.int .i64 x, .string s] 129))) := Chg.of_below bA
 have HBW : Hid (Below N w0 w) := hb
 have HA0 : Hid (Amb w0) := hA0
 have xQ : X2 129 (w.alloc (.cells #[.int .i64 x, .string s] 129)) w.heap.size (.int .i64 x) (.string s) := new_block _ _
 have hQK : w.heap.size ≠ K := by omega
 clear h hb bA hA0
 go_enter Tryz.func127, Tryz.ntmps127
 go_wp2_with fail
 refine (is32_any x _).mono ?_
 rintro r w9 ⟨rfl, rfl⟩
 go_wp2_with fail
 refine (need_any K _ _ 1 (s32 x) HK.out).mono ?_
 rintro r w1 ⟨rfl, hk, c⟩
 have xQ1 := xQ.chg c hQK
 clear xQ
 have xQ := xQ1
 have HC1 : Hid (Chg K w w1) := HC.out.trans c
 clear HC
 have HC : Hid (Chg K w w1) := HC1.out
 clear HK
 have HK : Hid (CK w1 K (fstE a (okE (s32 x) 1))) := hk
 clear hk c HC1 xQ1
 obtain ⟨z10, z11⟩ := xQ.cell
 go_wp2_with fail
 refine (need_any K _ _ 2 (decide ((s.size : Int) ≤ 64)) HK.out).mono ?_
 rintro r w2 ⟨rfl, hk, c⟩
 have xQ1 := xQ.chg c hQK
 clear xQ
 have xQ := xQ1
 have HC1 : Hid (Chg K w w2) := HC.out.trans c
 clear HC
 have HC : Hid (Chg K w w2) := HC1.out
 clear HK
 have HK : Hid (CK w2 K (fstE (fstE a (okE (s32 x) 1)) (okE (decide ((s.size : Int) ≤ 64)) 2))) := hk
 clear hk c HC1 xQ1
 obtain ⟨z20, z21⟩ := xQ.cell
 go_wp2
 go_end0
 refine ⟨rfl, ?_, HC.out⟩
 have := HK.out
 unfold chkDat
 dsimp only
 rw [fstE_assoc] at this
 exact this
theorem cfunction (K N : Nat) (w0 w : World) (a : Int) (t : Int) (l : NumD) (o : Option Addr) (cap : Nat) (b : List InsD) (h : CK w K a) (hb : Below N w0 w) (hNK : N ≤ K) (hNw : N ≤ w.heap.size) (hA0 : Amb w0) (hN4 : 5 ≤ N) (hN0 : w0.heap.size ≤ N) (hl : l.ok .u8 w0) (hL : ∀ w', Below N w0 w' → LD w' o b) :
  Calls Tryz.prog 117 #[.pointer (some ⟨K, 0, none⟩), .agg #[.int .i64 t, .slice l.o l.n l.cap, .slice o b.length cap]] w (CkOut K w (fstE a (chkFun ⟨t, l, o, cap, b⟩))) := by
 have hKw := h.lt
 have bA : Below w.heap.size w (w.alloc (.cells #[.int .i64 t, .slice l.o l.n l.cap, .slice o b.length cap] 59)) := (Below.refl _ _).alloc (Nat.le_refl _) _
 have HK : Hid (CK (w.alloc (.cells #[.int .i64 t, .slice l.o l.n l.cap, .slice o b.length cap] 59)) K a) := h.under bA
 have HC : Hid (Chg K w (w.alloc (.cells #[.int .i64 t, .slice l.o l.n l.cap, .slice o b.length cap] 59))) := Chg.of_below bA
 have HBW : Hid (Below N w0 w) := hb
 have HA0 : Hid (Amb w0) := hA0
 have xQ : X3 59 (w.alloc (.cells #[.int .i64 t, .slice l.o l.n l.cap, .slice o b.length cap] 59)) w.heap.size (.int .i64 t) (.slice l.o l.n l.cap) (.slice o b.length cap) := new_block _ _
 have hQK : w.heap.size ≠ K := by omega
 have Hl : Hid (l.ok .u8 w0) := hl
 have HLD : Hid (type_of% hL) := hL
 clear hl hL
 clear h hb bA hA0
 go_enter Tryz.func117, Tryz.ntmps117
 go_wp2_with fail
 refine (cnumber K _ _ t HK.out).mono ?_
 rintro r w1 ⟨rfl, hk, c⟩
 have xQ1 := xQ.chg c hQK
 clear xQ
 have xQ := xQ1
 have HC1 : Hid (Chg K w w1) := HC.out.trans c
 clear HC
 have HC : Hid (Chg K w w1) := HC1.out
 clear HK
 have HK : Hid (CK w1 K (fstE a (chkNum t))) := hk
 clear hk c HC1 xQ1
 obtain ⟨z10, z11, z12⟩ := xQ.cell
 go_wp2_with fail
 refine (each_kin K N w0 _ 16 _ chkKind l.xs l.o l.n l.cap Hl.out.len Hl.out.le Hl.out.most (Hl.out.at1 hN0) HK.out (below_chg HBW.out HC.out hNK hNw) hNK (Nat.le_trans hNw HC.out.size) (look_kind K N w0 l.xs)).mono ?_
 rintro r w2 ⟨rfl, hk, c⟩
 have xQ1 := xQ.chg c hQK
 clear xQ
 have xQ := xQ1
 have HC1 : Hid (Chg K w w2) := HC.out.trans c
 clear HC
 have HC : Hid (Chg K w w2) := HC1.out
 clear HK
 have HK : Hid (CK w2 K (fstE (fstE a (chkNum t)) (chkL 16 chkKind l.xs))) := hk
 clear hk c HC1 xQ1
 obtain ⟨z20, z21, z22⟩ := xQ.cell
 go_wp2_with fail
 refine (ncheck_any o cap b _ (HLD.out _ (below_chg HBW.out HC.out hNK hNw)) (((HA0.out.to ((below_chg HBW.out HC.out hNK hNw).mono hN4)))).1 (Nat.lt_of_le_of_lt (by decide) (((HA0.out.to ((below_chg HBW.out HC.out hNK hNw).mono hN4)))).2.2)).mono ?_
 rintro r w3 ⟨rfl, b3⟩
 have xQ1 := xQ.chg (Chg.of_below (P := K) b3) hQK
 clear xQ
 have xQ := xQ1
 have HC1 : Hid (Chg K w w3) := HC.out.trans (Chg.of_below b3)
 clear HC
 have HC : Hid (Chg K w w3) := HC1.out
 have HK1 : Hid (CK w3 K (fstE (fstE a (chkNum t)) (chkL 16 chkKind l.xs))) := HK.out.under b3
 clear HK
 have HK : Hid (CK w3 K (fstE (fstE a (chkNum t)) (chkL 16 chkKind l.xs))) := HK1.out
 clear b3 HC1 HK1 xQ1
 go_wp2_with fail
 refine (need_any K _ _ (nChk b) (nChk b == 0) HK.out).mono ?_
 rintro r w3 ⟨rfl, hk, c⟩
 have xQ1 := xQ.chg c hQK
 clear xQ
 have xQ := xQ1
 have HC1 : Hid (Chg K w w3) := HC.out.trans c
 clear HC
 have HC : Hid (Chg K w w3) := HC1.out
 clear HK
 have HK : Hid (CK w3 K (fstE (fstE (fstE a (chkNum t)) (chkL 16 chkKind l.xs)) (okE (nChk b == 0) (nChk b)))) := hk
 clear hk c HC1 xQ1
 obtain ⟨z30, z31, z32⟩ := xQ.cell
 go_wp2
 go_end0
 refine ⟨rfl, ?_, HC.out⟩
 have := HK.out
 unfold chkFun
 dsimp only
 rw [fstE_assoc, fstE_assoc] at this
 rw [fstE_assoc]
 exact this
theorem cglobal (K N : Nat) (w0 w : World) (a : Int) (k : Int) (m : Bool) (s : Int) (h : CK w K a) (hb : Below N w0 w) (hNK : N ≤ K) (hNw : N ≤ w.heap.size) :
  Calls Tryz.prog 120 #[.pointer (some ⟨K, 0, none⟩), .agg #[.int .u8 k, .bool m, .int .i64 s]] w (CkOut K w (fstE a (chkGlo ⟨k, m, s⟩))) := by
 have hKw := h.lt
 have bA : Below w.heap.size w (w.alloc (.cells #[.int .u8 k, .bool m, .int .i64 s] 127)) := (Below.refl _ _).alloc (Nat.le_refl _) _
 have HK : Hid (CK (w.alloc (.cells #[.int .u8 k, .bool m, .int .i64 s] 127)) K a) := h.under bA
 have HC : Hid (Chg K w (w.alloc (.cells #[.int .u8 k, .bool m, .int .i64 s] 127))) := Chg.of_below bA
 have xQ : X3 127 (w.alloc (.cells #[.int .u8 k, .bool m, .int .i64 s] 127)) w.heap.size (.int .u8 k) (.bool m) (.int .i64 s) := new_block _ _
 have hQK : w.heap.size ≠ K := by omega
 clear h hb bA
 go_enter Tryz.func120, Tryz.ntmps120
 go_wp2_with fail
 refine (ckind K _ a k HK.out).mono ?_
 rintro r w1 ⟨rfl, hk, c⟩
 have xQ1 := xQ.chg c hQK
 clear xQ
 obtain ⟨z0, z1, z2⟩ := xQ1.cell
 have HC1 : Hid (Chg K w w1) := HC.out.trans c
 have HK1 : Hid (CK w1 K (fstE a (chkKind k))) := hk
 clear hk c HC HK xQ1
 rcases h126 : (k == 126 : Bool) with _ | _
 ·have HE : Hid (chkGlo ⟨k, m, s⟩ = fstE (chkKind k) (okE (s32 s) 1)) := by unfold Hid chkGlo; dsimp only; rw [h126, Bool.false_or]
  go_wp2_with fail
  refine (is32_any s _).mono ?_
  rintro r w9 ⟨rfl, rfl⟩
  go_wp2_with fail
  refine (need_any K _ _ 1 (s32 s) HK1.out).mono ?_
  rintro r w2 ⟨rfl, h2, c2⟩
  have H2 : Hid (type_of% h2) := h2
  have HC2 : Hid (Chg K w w2) := HC1.out.trans c2
  clear h2 c2
  go_wp2
  go_end0
  exact ⟨rfl, by rw [HE.out, ← fstE_assoc]; exact H2.out, HC2.out⟩
 ·have HE : Hid (chkGlo ⟨k, m, s⟩ = fstE (chkKind k) (okE true 1)) := by unfold Hid chkGlo; dsimp only; rw [h126, Bool.true_or]
  go_wp2_with fail
  refine (need_any K _ _ 1 true HK1.out).mono ?_
  rintro r w2 ⟨rfl, h2, c2⟩
  have H2 : Hid (type_of% h2) := h2
  have HC2 : Hid (Chg K w w2) := HC1.out.trans c2
  clear h2 c2
  go_wp2
  go_end0
  exact ⟨rfl, by rw [HE.out, ← fstE_assoc]; exact H2.out, HC2.out⟩
end Go.Proofs.YtlfihndbnaaodaaGreatDoor
