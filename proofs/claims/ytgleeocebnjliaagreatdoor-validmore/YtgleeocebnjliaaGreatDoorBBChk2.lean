/-
 What the checker's methods do; Check.
-/
import Derived.Test.YtgleeocebnjliaaGreatDoorBBChk1
import Derived.Test.YtgleeocebnjliaaGreatDoorBBPart1
import Derived.Test.YtgleeocebnjliaaGreatDoorBQM
import Derived.WalkLawsBesides
set_option maxHeartbeats 2000000
set_option maxRecDepth 1000000
namespace Go.Proofs.YtgleeocebnjliaaGreatDoor
set_option linter.unusedVariables false
open Go.RowKit
def chkKind (k : Int) : Int := okE (isK k) 1
def numOk (n : Int) : Bool := decide (0 ≤ n) && decide (n ≤ 4294967295)
def chkNum (n : Int) : Int := okE (numOk n) 1
def s32 (n : Int) : Bool := decide (-2147483648 ≤ n) && decide (n ≤ 2147483647)
def chkName (s : List Int) : Int := if 16 < s.length then 2 else okE (okName s) 4
def chkSig (d : SigD) : Int := fstE (chkL 4 chkKind d.i.xs) (chkL 1 chkKind d.r.xs)
def chkNam (d : NamD) : Int := fstE (chkName (nums d.s)) (chkNum d.n)
def chkFun (d : FunD) : Int := fstE (fstE (chkNum d.t) (chkL 16 chkKind d.l.xs)) (okE (nChk d.b == 0) (nChk d.b))
def chkGlo (d : GloD) : Int := fstE (chkKind d.k) (okE (d.k == 126 || s32 d.s) 1)
def chkEle (d : EleD) : Int := fstE (okE (s32 d.a) 1) (chkL 16 chkNum d.f.xs)
def chkDat (d : DatD) : Int := fstE (okE (s32 d.a) 1) (okE (decide ((d.s.size : Int) ≤ 64)) 2)
theorem ckind (K : Nat) (w : World) (a k : Int) (h : CK w K a) :
  Calls Tryz.prog 141 #[.pointer (some ⟨K, 0, none⟩), .int .u8 k] w (CkOut K w (fstE a (chkKind k))) := by
 have HN : Hid (type_of% (need_any K w a 1 (isK k) h)) := need_any K w a 1 (isK k) h
 clear h
 go_enter Tryz.func141, Tryz.ntmps141
 go_wp2_with fail
 refine (isKind_any k _).mono ?_
 rintro r w ⟨rfl, rfl⟩
 go_wp2_with fail
 refine HN.out.mono ?_
 rintro r w1 ⟨rfl, h1, c1⟩
 have H1 : Hid (type_of% h1) := h1
 clear h1
 go_wp2
 go_end0
 exact ⟨rfl, H1.out, c1⟩
theorem cnumber (K : Nat) (w : World) (a n : Int) (h : CK w K a) :
  Calls Tryz.prog 92 #[.pointer (some ⟨K, 0, none⟩), .int .i64 n] w (CkOut K w (fstE a (chkNum n))) := by
 have HN : Hid (type_of% (need_any K w a 1 (numOk n) h)) := need_any K w a 1 (numOk n) h
 unfold numOk at HN
 clear h
 rcases h0 : (decide (0 ≤ n) : Bool) with _ | _
 ·rw [h0, Bool.false_and] at HN
  have HE : Hid (chkNum n = okE false 1) := by unfold Hid chkNum numOk; rw [h0]; rfl
  rw [HE.out]
  go_enter Tryz.func92, Tryz.ntmps92
  go_wp2_with fail
  refine HN.out.mono ?_
  rintro r w1 ⟨rfl, h1, c1⟩
  have H1 : Hid (type_of% h1) := h1
  clear h1
  go_wp2
  go_end0
  exact ⟨rfl, H1.out, c1⟩
 ·rw [h0, Bool.true_and] at HN
  have HE : Hid (chkNum n = okE (decide (n ≤ 4294967295)) 1) := by unfold Hid chkNum numOk; rw [h0]; rfl
  rw [HE.out]
  go_enter Tryz.func92, Tryz.ntmps92
  go_wp2_with fail
  refine HN.out.mono ?_
  rintro r w1 ⟨rfl, h1, c1⟩
  have H1 : Hid (type_of% h1) := h1
  clear h1
  go_wp2
  go_end0
  exact ⟨rfl, H1.out, c1⟩
theorem is32_any (n : Int) (w : World) : Calls Tryz.prog 143 #[.int .i64 n] w fun r w' => r = .returned (.bool (s32 n)) ∧ w' = w := by
 unfold s32
 rcases h0 : (decide (-2147483648 ≤ n) : Bool) with _ | _
 ·go_enter Tryz.func143, Tryz.ntmps143
  go_wp2
  go_ret
  exact ⟨rfl, rfl⟩
 ·go_enter Tryz.func143, Tryz.ntmps143
  go_wp2
  go_ret
  exact ⟨rfl, rfl⟩
theorem name_any (s : ByteArray) (w : World) (hA : Amb w) :
  Calls Tryz.prog 172 #[.string s] w fun r w' => Below w.heap.size w w' ∧ ∃ t, r = .returned (.tuple #[.string t, .int .i64 (chkName (nums s))]) ∧ (chkName (nums s) = 0 → nums t = tName (nums s)) := by
 have hU : Hid (Lib.Utf8Tabs 3 4 w) := hA.2.1
 have hl := nums_length s
 by_cases h : 16 < s.size
 ·refine (name_large s w (by omega)).mono ?_
  rintro r w' ⟨rfl, b⟩
  refine ⟨b, ⟨#[]⟩, ?_, ?_⟩
  ·unfold chkName; rw [if_pos (by omega)]
  ·unfold chkName; rw [if_pos (by omega)]; intro h; exact absurd h (by decide)
 ·have e : chkName (nums s) = okE (Lib.validD s.data.toList) 4 := by unfold chkName; rw [if_neg (by omega), okName_nums]
  cases hv : Lib.validD s.data.toList with
  | false =>
   refine (name_bad valid_c s w (by omega) hv hU).mono ?_
   rintro r w' ⟨rfl, b⟩
   rw [e, hv]
   exact ⟨b, _, rfl, fun h => absurd h (by decide)⟩
  | true =>
   refine (name_ok valid_c s _ w (by omega) hv hU rfl).mono ?_
   rintro r w' ⟨rfl, b⟩
   rw [e, hv]
   refine ⟨b, _, rfl, fun _ => ?_⟩
   rw [nums_append, nums_str (by intro b hb; simp at hb; omega)]
   unfold tName
   rw [uB_lo (by omega), hl]
theorem cname (K : Nat) (w : World) (a : Int) (s : ByteArray) (h : CK w K a) (hA : Amb w) :
  Calls Tryz.prog 142 #[.pointer (some ⟨K, 0, none⟩), .string s] w (CkOut K w (fstE a (chkName (nums s)))) := by
 have HK : Hid (CK w K a) := h
 have HA : Hid (Amb w) := hA
 clear h hA
 have HE : Hid (fstE a (okE (chkName (nums s) == 0) (chkName (nums s))) = fstE a (chkName (nums s))) := by
  unfold Hid okE
  by_cases h0 : chkName (nums s) = 0
  ·rw [h0]; rfl
  ·rw [if_neg (by simpa using h0)]
 go_enter Tryz.func142, Tryz.ntmps142
 go_wp2_with fail
 refine (name_any s _ HA.out).mono ?_
 rintro r w1 ⟨b1, t, rfl, _⟩
 obtain ⟨e, he⟩ : ∃ e, e = chkName (nums s) := ⟨_, rfl⟩
 have HEE : Hid (e = chkName (nums s)) := he
 rw [← he] at HE ⊢
 clear he
 go_wp2_with fail
 refine (need_any K _ a e (e == 0) (HK.out.under b1)).mono ?_
 rintro r w2 ⟨rfl, h2, c2⟩
 rw [HE.out] at h2
 have H2 : Hid (type_of% h2) := h2
 clear h2
 go_wp2
 go_end0
 exact ⟨rfl, by rw [← HEE.out]; exact H2.out, (Chg.of_below b1).trans c2⟩
theorem NumD.ok.at1 {k : IntKind} {w0 : World} {d : NumD} {N : Nat} (h : d.ok k w0) (hN : w0.heap.size ≤ N) : d.xs = [] ∨ ∃ b f, d.o = some ⟨b, f, none⟩ ∧ b < N ∧ ∀ i (h : i < d.xs.length) r, r < 1 → w0.cell? ⟨b, f + i * 1 + r, none⟩ = ([Value.int k d.xs[i]])[r]? := by
 rcases h.at' with h0 | ⟨a, h1, h2, h3⟩
 ·left
  have := h.len
  rw [h0] at this
  exact List.length_eq_zero_iff.1 this
 ·rcases Nat.eq_zero_or_pos d.n with h0 | h0
  ·left
   have := h.len
   rw [h0] at this
   exact List.length_eq_zero_iff.1 this
  ·right
   obtain ⟨b, f, sp⟩ := a
   have hc0 := h3 0 h0
   have hsp : sp = none := by simpa [Addr.add] using World.cell?_spot hc0
   subst hsp
   refine ⟨b, f, h1, by have h2 : b < w0.heap.size := h2; omega, fun i hi r hr => ?_⟩
   obtain rfl : r = 0 := by omega
   have hadd : (⟨b, f, none⟩ : Addr).add i = ⟨b, f + i, none⟩ := by unfold Addr.add; split <;> simp_all
   have := h3 i (by rw [← h.len]; exact hi)
   rw [hadd] at this
   rw [Nat.mul_one, Nat.add_zero, this, List.getD_eq_getElem?_getD, List.getElem?_eq_getElem hi]
   rfl
theorem look_kind (K N : Nat) (w0 : World) (L : List Int) : ∀ d ∈ L, ∀ w' a', CK w' K a' → Below N w0 w' → N ≤ w'.heap.size → Calls Tryz.prog 141 #[.pointer (some ⟨K, 0, none⟩), .int .u8 d] w' (CkOut K w' (fstE a' (chkKind d))) := fun d _ w' a' h _ _ => ckind K w' a' d h
theorem look_num (K N : Nat) (w0 : World) (L : List Int) : ∀ d ∈ L, ∀ w' a', CK w' K a' → Below N w0 w' → N ≤ w'.heap.size → Calls Tryz.prog 92 #[.pointer (some ⟨K, 0, none⟩), .int .i64 d] w' (CkOut K w' (fstE a' (chkNum d))) := fun d _ w' a' h _ _ => cnumber K w' a' d h
theorem csig (K N : Nat) (w0 w : World) (a : Int) (i r : NumD) (h : CK w K a) (hb : Below N w0 w) (hNK : N ≤ K) (hNw : N ≤ w.heap.size) (hA0 : Amb w0) (hN4 : 5 ≤ N) (hN0 : w0.heap.size ≤ N) (hi : i.ok .u8 w0) (hr : r.ok .u8 w0) :
  Calls Tryz.prog 82 #[.pointer (some ⟨K, 0, none⟩), .agg #[.slice i.o i.n i.cap, .slice r.o r.n r.cap]] w (CkOut K w (fstE a (chkSig ⟨i, r⟩))) := by
 have hKw := h.lt
 have bA : Below w.heap.size w (w.alloc (.cells #[.slice i.o i.n i.cap, .slice r.o r.n r.cap] 46)) := (Below.refl _ _).alloc (Nat.le_refl _) _
 have HK : Hid (CK (w.alloc (.cells #[.slice i.o i.n i.cap, .slice r.o r.n r.cap] 46)) K a) := h.under bA
 have HC : Hid (Chg K w (w.alloc (.cells #[.slice i.o i.n i.cap, .slice r.o r.n r.cap] 46))) := Chg.of_below bA
 have HBW : Hid (Below N w0 w) := hb
 have HA0 : Hid (Amb w0) := hA0
 have xQ : X2 46 (w.alloc (.cells #[.slice i.o i.n i.cap, .slice r.o r.n r.cap] 46)) w.heap.size (.slice i.o i.n i.cap) (.slice r.o r.n r.cap) := new_block _ _
 have hQK : w.heap.size ≠ K := by omega
 have Hi : Hid (i.ok .u8 w0) := hi
 have Hr : Hid (r.ok .u8 w0) := hr
 clear hi hr
 clear h hb bA hA0
 go_enter Tryz.func82, Tryz.ntmps82
 go_wp2_with fail
 refine (each_kin K N w0 _ 4 _ chkKind i.xs i.o i.n i.cap Hi.out.len Hi.out.le Hi.out.most (Hi.out.at1 hN0) HK.out (below_chg HBW.out HC.out hNK hNw) hNK (Nat.le_trans hNw HC.out.size) (look_kind K N w0 i.xs)).mono ?_
 rintro r w1 ⟨rfl, hk, c⟩
 have xQ1 := xQ.chg c hQK
 clear xQ
 have xQ := xQ1
 have HC1 : Hid (Chg K w w1) := HC.out.trans c
 clear HC
 have HC : Hid (Chg K w w1) := HC1.out
 clear HK
 have HK : Hid (CK w1 K (fstE a (chkL 4 chkKind i.xs))) := hk
 clear hk c HC1 xQ1
 obtain ⟨z10, z11⟩ := xQ.cell
 go_wp2_with fail
 refine (each_kin K N w0 _ 1 _ chkKind r.xs r.o r.n r.cap Hr.out.len Hr.out.le Hr.out.most (Hr.out.at1 hN0) HK.out (below_chg HBW.out HC.out hNK hNw) hNK (Nat.le_trans hNw HC.out.size) (look_kind K N w0 r.xs)).mono ?_
 rintro r w2 ⟨rfl, hk, c⟩
 have xQ1 := xQ.chg c hQK
 clear xQ
 have xQ := xQ1
 have HC1 : Hid (Chg K w w2) := HC.out.trans c
 clear HC
 have HC : Hid (Chg K w w2) := HC1.out
 clear HK
 have HK : Hid (CK w2 K (fstE (fstE a (chkL 4 chkKind i.xs)) (chkL 1 chkKind r.xs))) := hk
 clear hk c HC1 xQ1
 obtain ⟨z20, z21⟩ := xQ.cell
 go_wp2
 go_end0
 refine ⟨rfl, ?_, HC.out⟩
 have := HK.out
 unfold chkSig
 dsimp only
 rw [fstE_assoc] at this
 exact this
theorem cimported (K N : Nat) (w0 w : World) (a : Int) (s : ByteArray) (n : Int) (h : CK w K a) (hb : Below N w0 w) (hNK : N ≤ K) (hNw : N ≤ w.heap.size) (hA0 : Amb w0) (hN4 : 5 ≤ N) :
  Calls Tryz.prog 84 #[.pointer (some ⟨K, 0, none⟩), .agg #[.string s, .int .i64 n]] w (CkOut K w (fstE a (chkNam ⟨s, n⟩))) := by
 have hKw := h.lt
 have bA : Below w.heap.size w (w.alloc (.cells #[.string s, .int .i64 n] 121)) := (Below.refl _ _).alloc (Nat.le_refl _) _
 have HK : Hid (CK (w.alloc (.cells #[.string s, .int .i64 n] 121)) K a) := h.under bA
 have HC : Hid (Chg K w (w.alloc (.cells #[.string s, .int .i64 n] 121))) := Chg.of_below bA
 have HBW : Hid (Below N w0 w) := hb
 have HA0 : Hid (Amb w0) := hA0
 have xQ : X2 121 (w.alloc (.cells #[.string s, .int .i64 n] 121)) w.heap.size (.string s) (.int .i64 n) := new_block _ _
 have hQK : w.heap.size ≠ K := by omega
 clear h hb bA hA0
 go_enter Tryz.func84, Tryz.ntmps84
 go_wp2_with fail
 refine (cname K _ _ s HK.out ((HA0.out.to ((below_chg HBW.out HC.out hNK hNw).mono hN4)))).mono ?_
 rintro r w1 ⟨rfl, hk, c⟩
 have xQ1 := xQ.chg c hQK
 clear xQ
 have xQ := xQ1
 have HC1 : Hid (Chg K w w1) := HC.out.trans c
 clear HC
 have HC : Hid (Chg K w w1) := HC1.out
 clear HK
 have HK : Hid (CK w1 K (fstE a (chkName (nums s)))) := hk
 clear hk c HC1 xQ1
 obtain ⟨z10, z11⟩ := xQ.cell
 go_wp2_with fail
 refine (cnumber K _ _ n HK.out).mono ?_
 rintro r w2 ⟨rfl, hk, c⟩
 have xQ1 := xQ.chg c hQK
 clear xQ
 have xQ := xQ1
 have HC1 : Hid (Chg K w w2) := HC.out.trans c
 clear HC
 have HC : Hid (Chg K w w2) := HC1.out
 clear HK
 have HK : Hid (CK w2 K (fstE (fstE a (chkName (nums s))) (chkNum n))) := hk
 clear hk c HC1 xQ1
 obtain ⟨z20, z21⟩ := xQ.cell
 go_wp2
 go_end0
 refine ⟨rfl, ?_, HC.out⟩
 have := HK.out
 unfold chkNam
 dsimp only
 rw [fstE_assoc] at this
 exact this
theorem cexport (K N : Nat) (w0 w : World) (a : Int) (s : ByteArray) (n : Int) (h : CK w K a) (hb : Below N w0 w) (hNK : N ≤ K) (hNw : N ≤ w.heap.size) (hA0 : Amb w0) (hN4 : 5 ≤ N) :
  Calls Tryz.prog 91 #[.pointer (some ⟨K, 0, none⟩), .agg #[.string s, .int .i64 n]] w (CkOut K w (fstE a (chkNam ⟨s, n⟩))) := by
 have hKw := h.lt
 have bA : Below w.heap.size w (w.alloc (.cells #[.string s, .int .i64 n] 124)) := (Below.refl _ _).alloc (Nat.le_refl _) _
 have HK : Hid (CK (w.alloc (.cells #[.string s, .int .i64 n] 124)) K a) := h.under bA
 have HC : Hid (Chg K w (w.alloc (.cells #[.string s, .int .i64 n] 124))) := Chg.of_below bA
 have HBW : Hid (Below N w0 w) := hb
 have HA0 : Hid (Amb w0) := hA0
 have xQ : X2 124 (w.alloc (.cells #[.string s, .int .i64 n] 124)) w.heap.size (.string s) (.int .i64 n) := new_block _ _
 have hQK : w.heap.size ≠ K := by omega
 clear h hb bA hA0
 go_enter Tryz.func91, Tryz.ntmps91
 go_wp2_with fail
 refine (cname K _ _ s HK.out ((HA0.out.to ((below_chg HBW.out HC.out hNK hNw).mono hN4)))).mono ?_
 rintro r w1 ⟨rfl, hk, c⟩
 have xQ1 := xQ.chg c hQK
 clear xQ
 have xQ := xQ1
 have HC1 : Hid (Chg K w w1) := HC.out.trans c
 clear HC
 have HC : Hid (Chg K w w1) := HC1.out
 clear HK
 have HK : Hid (CK w1 K (fstE a (chkName (nums s)))) := hk
 clear hk c HC1 xQ1
 obtain ⟨z10, z11⟩ := xQ.cell
 go_wp2_with fail
 refine (cnumber K _ _ n HK.out).mono ?_
 rintro r w2 ⟨rfl, hk, c⟩
 have xQ1 := xQ.chg c hQK
 clear xQ
 have xQ := xQ1
 have HC1 : Hid (Chg K w w2) := HC.out.trans c
 clear HC
 have HC : Hid (Chg K w w2) := HC1.out
 clear HK
 have HK : Hid (CK w2 K (fstE (fstE a (chkName (nums s))) (chkNum n))) := hk
 clear hk c HC1 xQ1
 obtain ⟨z20, z21⟩ := xQ.cell
 go_wp2
 go_end0
 refine ⟨rfl, ?_, HC.out⟩
 have := HK.out
 unfold chkNam
 dsimp only
 rw [fstE_assoc] at this
 exact this
theorem celem (K N : Nat) (w0 w : World) (a : Int) (x : Int) (f : NumD) (h : CK w K a) (hb : Below N w0 w) (hNK : N ≤ K) (hNw : N ≤ w.heap.size) (hA0 : Amb w0) (hN4 : 5 ≤ N) (hN0 : w0.heap.size ≤ N) (hf : f.ok .i64 w0) :
  Calls Tryz.prog 94 #[.pointer (some ⟨K, 0, none⟩), .agg #[.int .i64 x, .slice f.o f.n f.cap]] w (CkOut K w (fstE a (chkEle ⟨x, f⟩))) := by
 have hKw := h.lt
 have bA : Below w.heap.size w (w.alloc (.cells #[.int .i64 x, .slice f.o f.n f.cap] 128)) := (Below.refl _ _).alloc (Nat.le_refl _) _
 have HK : Hid (CK (w.alloc (.cells #[.int .i64 x, .slice f.o f.n f.cap] 128)) K a) := h.under bA
 have HC : Hid (Chg K w (w.alloc (.cells #[.int .i64 x, .slice f.o f.n f.cap] 128))) := Chg.of_below bA
 have HBW : Hid (Below N w0 w) := hb
 have HA0 : Hid (Amb w0) := hA0
 have xQ : X2 128 (w.alloc (.cells #[.int .i64 x, .slice f.o f.n f.cap] 128)) w.heap.size (.int .i64 x) (.slice f.o f.n f.cap) := new_block _ _
 have hQK : w.heap.size ≠ K := by omega
 have Hf : Hid (f.ok .i64 w0) := hf
 clear hf
 clear h hb bA hA0
 go_enter Tryz.func94, Tryz.ntmps94
 go_wp2_with fail
 refine (is32_any x _).mono ?_
 rintro r w9 ⟨rfl, rfl⟩
 go_wp2_with fail
 refine (need_any K _ _ 1 (s32 x) HK.out).mono ?_
 rintro r w1 ⟨rfl, hk, c⟩
 have xQ1 := xQ.chg c hQK
 clear xQ
 have xQ := xQ1
 have HC1 : Hid (Chg K w w1) := HC.out.trans c
 clear HC
 have HC : Hid (Chg K w w1) := HC1.out
 clear HK
 have HK : Hid (CK w1 K (fstE a (okE (s32 x) 1))) := hk
 clear hk c HC1 xQ1
 obtain ⟨z10, z11⟩ := xQ.cell
 go_wp2_with fail
 refine (each_int K N w0 _ 16 _ chkNum f.xs f.o f.n f.cap Hf.out.len Hf.out.le Hf.out.most (Hf.out.at1 hN0) HK.out (below_chg HBW.out HC.out hNK hNw) hNK (Nat.le_trans hNw HC.out.size) (look_num K N w0 f.xs)).mono ?_
 rintro r w2 ⟨rfl, hk, c⟩
 have xQ1 := xQ.chg c hQK
 clear xQ
 have xQ := xQ1
 have HC1 : Hid (Chg K w w2) := HC.out.trans c
 clear HC
 have HC : Hid (Chg K w w2) := HC1.out
 clear HK
 have HK : Hid (CK w2 K (fstE (fstE a (okE (s32 x) 1)) (chkL 16 chkNum f.xs))) := hk
 clear hk c HC1 xQ1
 obtain ⟨z20, z21⟩ := xQ.cell
 go_wp2
 go_end0
 refine ⟨rfl, ?_, HC.out⟩
 have := HK.out
 unfold chkEle
 dsimp only
 rw [fstE_assoc] at this
 exact this
theorem cdata (K N : Nat) (w0 w : World) (a : Int) (x : Int) (s : ByteArray) (h : CK w K a) (hb : Below N w0 w) (hNK : N ≤ K) (hNw : N ≤ w.heap.size) (hA0 : Amb w0) (hN4 : 5 ≤ N) :
  Calls Tryz.prog 96 #[.pointer (some ⟨K, 0, none⟩), .agg #[.int .i64 x, .string s]] w (CkOut K w (fstE a (chkDat ⟨x, s⟩))) := by
 have hKw := h.lt
 have bA : Below w.heap.size w (w.alloc (.cells #[.int .i64 x, .string s] 160)) := (Below.refl _ _).alloc (Nat.le_refl _) _
 have HK : Hid (CK (w.alloc (.cells #[.int .i64 x, .string s] 160)) K a) := h.under bA
 have HC : Hid (Chg K w (w.alloc (.cells #[.int .i64 x, .string s] 160))) := Chg.of_below bA
 have HBW : Hid (Below N w0 w) := hb
 have HA0 : Hid (Amb w0) := hA0
 have xQ : X2 160 (w.alloc (.cells #[.int .i64 x, .string s] 160)) w.heap.size (.int .i64 x) (.string s) := new_block _ _
 have hQK : w.heap.size ≠ K := by omega
 clear h hb bA hA0
 go_enter Tryz.func96, Tryz.ntmps96
 go_wp2_with fail
 refine (is32_any x _).mono ?_
 rintro r w9 ⟨rfl, rfl⟩
 go_wp2_with fail
 refine (need_any K _ _ 1 (s32 x) HK.out).mono ?_
 rintro r w1 ⟨rfl, hk, c⟩
 have xQ1 := xQ.chg c hQK
 clear xQ
 have xQ := xQ1
 have HC1 : Hid (Chg K w w1) := HC.out.trans c
 clear HC
 have HC : Hid (Chg K w w1) := HC1.out
 clear HK
 have HK : Hid (CK w1 K (fstE a (okE (s32 x) 1))) := hk
 clear hk c HC1 xQ1
 obtain ⟨z10, z11⟩ := xQ.cell
 go_wp2_with fail
 refine (need_any K _ _ 2 (decide ((s.size : Int) ≤ 64)) HK.out).mono ?_
 rintro r w2 ⟨rfl, hk, c⟩
 have xQ1 := xQ.chg c hQK
 clear xQ
 have xQ := xQ1
 have HC1 : Hid (Chg K w w2) := HC.out.trans c
 clear HC
 have HC : Hid (Chg K w w2) := HC1.out
 clear HK
 have HK : Hid (CK w2 K (fstE (fstE a (okE (s32 x) 1)) (okE (decide ((s.size : Int) ≤ 64)) 2))) := hk
 clear hk c HC1 xQ1
 obtain ⟨z20, z21⟩ := xQ.cell
 go_wp2
 go_end0
 refine ⟨rfl, ?_, HC.out⟩
 have := HK.out
 unfold chkDat
 dsimp only
 rw [fstE_assoc] at this
 exact this
theorem cfunction (K N : Nat) (w0 w : World) (a : Int) (t : Int) (l : NumD) (o : Option Addr) (cap : Nat) (b : List InsD) (h : CK w K a) (hb : Below N w0 w) (hNK : N ≤ K) (hNw : N ≤ w.heap.size) (hA0 : Amb w0) (hN4 : 5 ≤ N) (hN0 : w0.heap.size ≤ N) (hl : l.ok .u8 w0) (hL : ∀ w', Below N w0 w' → LD w' o b) :
  Calls Tryz.prog 86 #[.pointer (some ⟨K, 0, none⟩), .agg #[.int .i64 t, .slice l.o l.n l.cap, .slice o b.length cap]] w (CkOut K w (fstE a (chkFun ⟨t, l, o, cap, b⟩))) := by
 have hKw := h.lt
 have bA : Below w.heap.size w (w.alloc (.cells #[.int .i64 t, .slice l.o l.n l.cap, .slice o b.length cap] 57)) := (Below.refl _ _).alloc (Nat.le_refl _) _
 have HK : Hid (CK (w.alloc (.cells #[.int .i64 t, .slice l.o l.n l.cap, .slice o b.length cap] 57)) K a) := h.under bA
 have HC : Hid (Chg K w (w.alloc (.cells #[.int .i64 t, .slice l.o l.n l.cap, .slice o b.length cap] 57))) := Chg.of_below bA
 have HBW : Hid (Below N w0 w) := hb
 have HA0 : Hid (Amb w0) := hA0
 have xQ : X3 57 (w.alloc (.cells #[.int .i64 t, .slice l.o l.n l.cap, .slice o b.length cap] 57)) w.heap.size (.int .i64 t) (.slice l.o l.n l.cap) (.slice o b.length cap) := new_block _ _
 have hQK : w.heap.size ≠ K := by omega
 have Hl : Hid (l.ok .u8 w0) := hl
 have HLD : Hid (type_of% hL) := hL
 clear hl hL
 clear h hb bA hA0
 go_enter Tryz.func86, Tryz.ntmps86
 go_wp2_with fail
 refine (cnumber K _ _ t HK.out).mono ?_
 rintro r w1 ⟨rfl, hk, c⟩
 have xQ1 := xQ.chg c hQK
 clear xQ
 have xQ := xQ1
 have HC1 : Hid (Chg K w w1) := HC.out.trans c
 clear HC
 have HC : Hid (Chg K w w1) := HC1.out
 clear HK
 have HK : Hid (CK w1 K (fstE a (chkNum t))) := hk
 clear hk c HC1 xQ1
 obtain ⟨z10, z11, z12⟩ := xQ.cell
 go_wp2_with fail
 refine (each_kin K N w0 _ 16 _ chkKind l.xs l.o l.n l.cap Hl.out.len Hl.out.le Hl.out.most (Hl.out.at1 hN0) HK.out (below_chg HBW.out HC.out hNK hNw) hNK (Nat.le_trans hNw HC.out.size) (look_kind K N w0 l.xs)).mono ?_
 rintro r w2 ⟨rfl, hk, c⟩
 have xQ1 := xQ.chg c hQK
 clear xQ
 have xQ := xQ1
 have HC1 : Hid (Chg K w w2) := HC.out.trans c
 clear HC
 have HC : Hid (Chg K w w2) := HC1.out
 clear HK
 have HK : Hid (CK w2 K (fstE (fstE a (chkNum t)) (chkL 16 chkKind l.xs))) := hk
 clear hk c HC1 xQ1
 obtain ⟨z20, z21, z22⟩ := xQ.cell
 go_wp2_with fail
 refine (ncheck_any o cap b _ (HLD.out _ (below_chg HBW.out HC.out hNK hNw)) (((HA0.out.to ((below_chg HBW.out HC.out hNK hNw).mono hN4)))).1 (Nat.lt_of_le_of_lt (by decide) (((HA0.out.to ((below_chg HBW.out HC.out hNK hNw).mono hN4)))).2.2)).mono ?_
 rintro r w3 ⟨rfl, b3⟩
 have xQ1 := xQ.chg (Chg.of_below (P := K) b3) hQK
 clear xQ
 have xQ := xQ1
 have HC1 : Hid (Chg K w w3) := HC.out.trans (Chg.of_below b3)
 clear HC
 have HC : Hid (Chg K w w3) := HC1.out
 have HK1 : Hid (CK w3 K (fstE (fstE a (chkNum t)) (chkL 16 chkKind l.xs))) := HK.out.under b3
 clear HK
 have HK : Hid (CK w3 K (fstE (fstE a (chkNum t)) (chkL 16 chkKind l.xs))) := HK1.out
 clear b3 HC1 HK1 xQ1
 go_wp2_with fail
 refine (need_any K _ _ (nChk b) (nChk b == 0) HK.out).mono ?_
 rintro r w3 ⟨rfl, hk, c⟩
 have xQ1 := xQ.chg c hQK
 clear xQ
 have xQ := xQ1
 have HC1 : Hid (Chg K w w3) := HC.out.trans c
 clear HC
 have HC : Hid (Chg K w w3) := HC1.out
 clear HK
 have HK : Hid (CK w3 K (fstE (fstE (fstE a (chkNum t)) (chkL 16 chkKind l.xs)) (okE (nChk b == 0) (nChk b)))) := hk
 clear hk c HC1 xQ1
 obtain ⟨z30, z31, z32⟩ := xQ.cell
 go_wp2
 go_end0
 refine ⟨rfl, ?_, HC.out⟩
 have := HK.out
 unfold chkFun
 dsimp only
 rw [fstE_assoc, fstE_assoc] at this
 rw [fstE_assoc]
 exact this
theorem cglobal (K N : Nat) (w0 w : World) (a : Int) (k : Int) (m : Bool) (s : Int) (h : CK w K a) (hb : Below N w0 w) (hNK : N ≤ K) (hNw : N ≤ w.heap.size) :
  Calls Tryz.prog 89 #[.pointer (some ⟨K, 0, none⟩), .agg #[.int .u8 k, .bool m, .int .i64 s]] w (CkOut K w (fstE a (chkGlo ⟨k, m, s⟩))) := by
 have hKw := h.lt
 have bA : Below w.heap.size w (w.alloc (.cells #[.int .u8 k, .bool m, .int .i64 s] 49)) := (Below.refl _ _).alloc (Nat.le_refl _) _
 have HK : Hid (CK (w.alloc (.cells #[.int .u8 k, .bool m, .int .i64 s] 49)) K a) := h.under bA
 have HC : Hid (Chg K w (w.alloc (.cells #[.int .u8 k, .bool m, .int .i64 s] 49))) := Chg.of_below bA
 have xQ : X3 49 (w.alloc (.cells #[.int .u8 k, .bool m, .int .i64 s] 49)) w.heap.size (.int .u8 k) (.bool m) (.int .i64 s) := new_block _ _
 have hQK : w.heap.size ≠ K := by omega
 clear h hb bA
 go_enter Tryz.func89, Tryz.ntmps89
 go_wp2_with fail
 refine (ckind K _ a k HK.out).mono ?_
 rintro r w1 ⟨rfl, hk, c⟩
 have xQ1 := xQ.chg c hQK
 clear xQ
 obtain ⟨z0, z1, z2⟩ := xQ1.cell
 have HC1 : Hid (Chg K w w1) := HC.out.trans c
 have HK1 : Hid (CK w1 K (fstE a (chkKind k))) := hk
 clear hk c HC HK xQ1
 rcases h126 : (k == 126 : Bool) with _ | _
 ·have HE : Hid (chkGlo ⟨k, m, s⟩ = fstE (chkKind k) (okE (s32 s) 1)) := by unfold Hid chkGlo; dsimp only; rw [h126, Bool.false_or]
  go_wp2_with fail
  refine (is32_any s _).mono ?_
  rintro r w9 ⟨rfl, rfl⟩
  go_wp2_with fail
  refine (need_any K _ _ 1 (s32 s) HK1.out).mono ?_
  rintro r w2 ⟨rfl, h2, c2⟩
  have H2 : Hid (type_of% h2) := h2
  have HC2 : Hid (Chg K w w2) := HC1.out.trans c2
  clear h2 c2
  go_wp2
  go_end0
  exact ⟨rfl, by rw [HE.out, ← fstE_assoc]; exact H2.out, HC2.out⟩
 ·have HE : Hid (chkGlo ⟨k, m, s⟩ = fstE (chkKind k) (okE true 1)) := by unfold Hid chkGlo; dsimp only; rw [h126, Bool.true_or]
  go_wp2_with fail
  refine (need_any K _ _ 1 true HK1.out).mono ?_
  rintro r w2 ⟨rfl, h2, c2⟩
  have H2 : Hid (type_of% h2) := h2
  have HC2 : Hid (Chg K w w2) := HC1.out.trans c2
  clear h2 c2
  go_wp2
  go_end0
  exact ⟨rfl, by rw [HE.out, ← fstE_assoc]; exact H2.out, HC2.out⟩
end Go.Proofs.YtgleeocebnjliaaGreatDoor
