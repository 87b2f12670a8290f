/-
 What Check says of a module.
 Check says that there is no error just where a module is well.
-/
import Derived.Test.YtakpkdckajjooaaGreatDoorWBChk2
import Derived.Test.YtakpkdckajjooaaGreatDoorWBWhole
import Derived.Test.YtakpkdckajjooaaGreatDoorWQA
set_option maxHeartbeats 8000000
set_option maxRecDepth 1000000
namespace Go.Proofs.YtakpkdckajjooaaGreatDoor
set_option linter.unusedVariables false
open Go.RowKit
def pgOk (p q : Int) : Bool := decide (0 ≤ p) && decide (p ≤ q)
def mChk (m : ModD) : Int := fstE (chkL 16 chkSig m.types) (fstE (chkL 16 chkNam m.imports) (fstE (chkL 16 chkFun m.funcs) (fstE (okE (decide (0 ≤ m.table)) 1) (fstE (okE (decide (m.table ≤ 16)) 2) (fstE (okE (pgOk m.pages m.most) 1) (fstE (okE (decide (m.most ≤ 8)) 2) (fstE (chkL 8 chkGlo m.globals) (fstE (chkL 8 chkNam m.exports) (fstE (chkNum m.start) (fstE (chkL 4 chkEle m.elems) (chkL 4 chkDat m.data)))))))))))
theorem RowsOf.atN {α : Type} {w0 : World} {k : Nat} {cs : α → List Value} {ok : World → α → Prop} {o : Option Addr} {cap N : Nat} {L : List α} (h : RowsOf w0 k cs ok o cap L) (hN : w0.heap.size ≤ N) : L = [] ∨ ∃ b f, o = some ⟨b, f, none⟩ ∧ b < N ∧ ∀ i (h : i < L.length) r, r < k → w0.cell? ⟨b, f + i * k + r, none⟩ = (cs (L[i]))[r]? := by
 rcases h.at' with h0 | ⟨b, f, h1, h2, h3⟩
 ·exact Or.inl h0
 ·exact Or.inr ⟨b, f, h1, by omega, h3⟩
theorem cmodule (K N : Nat) (w0 w : World) (a : Int) (m : ModD) (C : Array Value) (HCm : Hid (C = mcA m)) (h : CK w K a) (hb : Below N w0 w) (hNK : N ≤ K) (hNw : N ≤ w.heap.size) (hA0 : Amb w0) (hN4 : 4 ≤ N) (hN0 : w0.heap.size ≤ N) (hN1 : N ≤ w0.heap.size) (hm : m.ok w0) :
  Calls Tryz.prog 17 #[.pointer (some ⟨K, 0, none⟩), .agg C] w (CkOut K w (fstE a (mChk m))) := by
 have hKw := h.lt
 have bA : Below w.heap.size w (w.alloc (.cells C 30)) := (Below.refl _ _).alloc (Nat.le_refl _) _
 have HK : Hid (CK (w.alloc (.cells C 30)) K a) := h.under bA
 have HC : Hid (Chg K w (w.alloc (.cells C 30))) := Chg.of_below bA
 have HBW : Hid (Below N w0 w) := hb
 have HA0 : Hid (Amb w0) := hA0
 have HM : Hid (m.ok w0) := hm
 have xQ : X11 (w.alloc (.cells C 30)) w.heap.size (.slice m.oT m.types.length m.cT) (.slice m.oI m.imports.length m.cI) (.slice m.oF m.funcs.length m.cF) (.int .i64 m.table) (.int .i64 m.pages) (.int .i64 m.most) (.slice m.oG m.globals.length m.cG) (.slice m.oE m.exports.length m.cE) (.int .i64 m.start) (.slice m.oL m.elems.length m.cL) (.slice m.oD m.data.length m.cD) := by
  rw [HCm.out]
  exact new_block _ _
 have hQK : w.heap.size ≠ K := by omega
 obtain ⟨c0, c1, c2, c3, c4, c5, c6, c7, c8, c9, c10⟩ := xQ.cell
 clear h hb bA hA0 hm
 go_enter Tryz.func17, Tryz.ntmps17
 go_wp2_with fail
 refine (each_sig K N w0 _ 16 _ chkSig m.types m.oT m.types.length m.cT rfl HM.out.types.le HM.out.types.most (HM.out.types.atN hN0) HK.out (below_chg HBW.out HC.out hNK hNw) hNK (Nat.le_trans hNw HC.out.size) (fun d hd w' a' hk hbb hnn => csig K N w0 w' a' d.i d.r hk hbb hNK hnn HA0.out hN4 hN0 (HM.out.types.all d hd).1 (HM.out.types.all d hd).2)).mono ?_
 rintro r w1 ⟨rfl, hk, c⟩
 have xQ1 := xQ.chg c hQK
 clear xQ
 have xQ := xQ1
 have HC1 : Hid (Chg K w w1) := HC.out.trans c
 clear HC
 have HC : Hid (Chg K w w1) := HC1.out
 clear HK
 have HK : Hid (CK w1 K (fstE (a) (chkL 16 chkSig m.types))) := hk
 clear hk c HC1 xQ1 c0 c1 c2 c3 c4 c5 c6 c7 c8 c9 c10
 obtain ⟨c0, c1, c2, c3, c4, c5, c6, c7, c8, c9, c10⟩ := xQ.cell
 go_wp2_with fail
 refine (each_imp K N w0 _ 16 _ chkNam m.imports m.oI m.imports.length m.cI rfl HM.out.imports.le HM.out.imports.most (HM.out.imports.atN hN0) HK.out (below_chg HBW.out HC.out hNK hNw) hNK (Nat.le_trans hNw HC.out.size) (fun d hd w' a' hk hbb hnn => cimported K N w0 w' a' d.s d.n hk hbb hNK hnn HA0.out hN4)).mono ?_
 rintro r w2 ⟨rfl, hk, c⟩
 have xQ1 := xQ.chg c hQK
 clear xQ
 have xQ := xQ1
 have HC1 : Hid (Chg K w w2) := HC.out.trans c
 clear HC
 have HC : Hid (Chg K w w2) := HC1.out
 clear HK
 have HK : Hid (CK w2 K (fstE (fstE (a) (chkL 16 chkSig m.types)) (chkL 16 chkNam m.imports))) := hk
 clear hk c HC1 xQ1 c0 c1 c2 c3 c4 c5 c6 c7 c8 c9 c10
 obtain ⟨c0, c1, c2, c3, c4, c5, c6, c7, c8, c9, c10⟩ := xQ.cell
 go_wp2_with fail
 refine (each_fun K N w0 _ 16 _ chkFun m.funcs m.oF m.funcs.length m.cF rfl HM.out.funcs.le HM.out.funcs.most (HM.out.funcs.atN hN0) HK.out (below_chg HBW.out HC.out hNK hNw) hNK (Nat.le_trans hNw HC.out.size) (fun d hd w' a' hk hbb hnn => cfunction K N w0 w' a' d.t d.l d.o d.cap d.b hk hbb hNK hnn HA0.out hN4 hN0 (HM.out.funcs.all d hd).2.1 (fun w2 b2 => (HM.out.funcs.all d hd).2.2.1.below (b2.mono hN0)))).mono ?_
 rintro r w3 ⟨rfl, hk, c⟩
 have xQ1 := xQ.chg c hQK
 clear xQ
 have xQ := xQ1
 have HC1 : Hid (Chg K w w3) := HC.out.trans c
 clear HC
 have HC : Hid (Chg K w w3) := HC1.out
 clear HK
 have HK : Hid (CK w3 K (fstE (fstE (fstE (a) (chkL 16 chkSig m.types)) (chkL 16 chkNam m.imports)) (chkL 16 chkFun m.funcs))) := hk
 clear hk c HC1 xQ1 c0 c1 c2 c3 c4 c5 c6 c7 c8 c9 c10
 obtain ⟨c0, c1, c2, c3, c4, c5, c6, c7, c8, c9, c10⟩ := xQ.cell
 go_wp2_with fail
 refine (need_any K _ _ 1 (decide (0 ≤ m.table)) HK.out).mono ?_
 rintro r w4 ⟨rfl, hk, c⟩
 have xQ1 := xQ.chg c hQK
 clear xQ
 have xQ := xQ1
 have HC1 : Hid (Chg K w w4) := HC.out.trans c
 clear HC
 have HC : Hid (Chg K w w4) := HC1.out
 clear HK
 have HK : Hid (CK w4 K (fstE (fstE (fstE (fstE (a) (chkL 16 chkSig m.types)) (chkL 16 chkNam m.imports)) (chkL 16 chkFun m.funcs)) (okE (decide (0 ≤ m.table)) 1))) := hk
 clear hk c HC1 xQ1 c0 c1 c2 c3 c4 c5 c6 c7 c8 c9 c10
 obtain ⟨c0, c1, c2, c3, c4, c5, c6, c7, c8, c9, c10⟩ := xQ.cell
 go_wp2_with fail
 refine (need_any K _ _ 2 (decide (m.table ≤ 16)) HK.out).mono ?_
 rintro r w5 ⟨rfl, hk, c⟩
 have xQ1 := xQ.chg c hQK
 clear xQ
 have xQ := xQ1
 have HC1 : Hid (Chg K w w5) := HC.out.trans c
 clear HC
 have HC : Hid (Chg K w w5) := HC1.out
 clear HK
 have HK : Hid (CK w5 K (fstE (fstE (fstE (fstE (fstE (a) (chkL 16 chkSig m.types)) (chkL 16 chkNam m.imports)) (chkL 16 chkFun m.funcs)) (okE (decide (0 ≤ m.table)) 1)) (okE (decide (m.table ≤ 16)) 2))) := hk
 clear hk c HC1 xQ1 c0 c1 c2 c3 c4 c5 c6 c7 c8 c9 c10
 obtain ⟨c0, c1, c2, c3, c4, c5, c6, c7, c8, c9, c10⟩ := xQ.cell
 have HPG : Hid (pgOk m.pages m.most = (decide (0 ≤ m.pages) && decide (m.pages ≤ m.most))) := rfl
 rcases hp : (decide (0 ≤ m.pages) : Bool) with _ | _
 ·go_wp2_with fail
  refine (need_any K _ _ 1 false HK.out).mono ?_
  rintro r w6 ⟨rfl, hk, c⟩
  have xQ1 := xQ.chg c hQK
  clear xQ
  have xQ := xQ1
  have HC1 : Hid (Chg K w w6) := HC.out.trans c
  clear HC
  have HC : Hid (Chg K w w6) := HC1.out
  clear HK
  have HK : Hid (CK w6 K (fstE (fstE (fstE (fstE (fstE (fstE (a) (chkL 16 chkSig m.types)) (chkL 16 chkNam m.imports)) (chkL 16 chkFun m.funcs)) (okE (decide (0 ≤ m.table)) 1)) (okE (decide (m.table ≤ 16)) 2)) (okE false 1))) := hk
  clear hk c HC1 xQ1 c0 c1 c2 c3 c4 c5 c6 c7 c8 c9 c10
  obtain ⟨c0, c1, c2, c3, c4, c5, c6, c7, c8, c9, c10⟩ := xQ.cell
  have HKP : Hid (CK w6 K (fstE (fstE (fstE (fstE (fstE (fstE (a) (chkL 16 chkSig m.types)) (chkL 16 chkNam m.imports)) (chkL 16 chkFun m.funcs)) (okE (decide (0 ≤ m.table)) 1)) (okE (decide (m.table ≤ 16)) 2)) (okE (pgOk m.pages m.most) 1))) := by
   have := HK.out
   unfold Hid
   rw [HPG.out, hp]
   rw [Bool.false_and]
   exact this
  clear HK
  have HK : Hid (CK w6 K (fstE (fstE (fstE (fstE (fstE (fstE (a) (chkL 16 chkSig m.types)) (chkL 16 chkNam m.imports)) (chkL 16 chkFun m.funcs)) (okE (decide (0 ≤ m.table)) 1)) (okE (decide (m.table ≤ 16)) 2)) (okE (pgOk m.pages m.most) 1))) := HKP.out
  clear HKP
  go_wp2_with fail
  refine (need_any K _ _ 2 (decide (m.most ≤ 8)) HK.out).mono ?_
  rintro r w7 ⟨rfl, hk, c⟩
  have xQ1 := xQ.chg c hQK
  clear xQ
  have xQ := xQ1
  have HC1 : Hid (Chg K w w7) := HC.out.trans c
  clear HC
  have HC : Hid (Chg K w w7) := HC1.out
  clear HK
  have HK : Hid (CK w7 K (fstE (fstE (fstE (fstE (fstE (fstE (fstE (a) (chkL 16 chkSig m.types)) (chkL 16 chkNam m.imports)) (chkL 16 chkFun m.funcs)) (okE (decide (0 ≤ m.table)) 1)) (okE (decide (m.table ≤ 16)) 2)) (okE (pgOk m.pages m.most) 1)) (okE (decide (m.most ≤ 8)) 2))) := hk
  clear hk c HC1 xQ1 c0 c1 c2 c3 c4 c5 c6 c7 c8 c9 c10
  obtain ⟨c0, c1, c2, c3, c4, c5, c6, c7, c8, c9, c10⟩ := xQ.cell
  go_wp2_with fail
  refine (each_glo K N w0 _ 8 _ chkGlo m.globals m.oG m.globals.length m.cG rfl HM.out.globals.le HM.out.globals.most (HM.out.globals.atN hN0) HK.out (below_chg HBW.out HC.out hNK hNw) hNK (Nat.le_trans hNw HC.out.size) (fun d hd w' a' hk hbb hnn => cglobal K N w0 w' a' d.k d.m d.s hk hbb hNK hnn)).mono ?_
  rintro r w8 ⟨rfl, hk, c⟩
  have xQ1 := xQ.chg c hQK
  clear xQ
  have xQ := xQ1
  have HC1 : Hid (Chg K w w8) := HC.out.trans c
  clear HC
  have HC : Hid (Chg K w w8) := HC1.out
  clear HK
  have HK : Hid (CK w8 K (fstE (fstE (fstE (fstE (fstE (fstE (fstE (fstE (a) (chkL 16 chkSig m.types)) (chkL 16 chkNam m.imports)) (chkL 16 chkFun m.funcs)) (okE (decide (0 ≤ m.table)) 1)) (okE (decide (m.table ≤ 16)) 2)) (okE (pgOk m.pages m.most) 1)) (okE (decide (m.most ≤ 8)) 2)) (chkL 8 chkGlo m.globals))) := hk
  clear hk c HC1 xQ1 c0 c1 c2 c3 c4 c5 c6 c7 c8 c9 c10
  obtain ⟨c0, c1, c2, c3, c4, c5, c6, c7, c8, c9, c10⟩ := xQ.cell
  go_wp2_with fail
  refine (each_exp K N w0 _ 8 _ chkNam m.exports m.oE m.exports.length m.cE rfl HM.out.exports.le HM.out.exports.most (HM.out.exports.atN hN0) HK.out (below_chg HBW.out HC.out hNK hNw) hNK (Nat.le_trans hNw HC.out.size) (fun d hd w' a' hk hbb hnn => cexport K N w0 w' a' d.s d.n hk hbb hNK hnn HA0.out hN4)).mono ?_
  rintro r w9 ⟨rfl, hk, c⟩
  have xQ1 := xQ.chg c hQK
  clear xQ
  have xQ := xQ1
  have HC1 : Hid (Chg K w w9) := HC.out.trans c
  clear HC
  have HC : Hid (Chg K w w9) := HC1.out
  clear HK
  have HK : Hid (CK w9 K (fstE (fstE (fstE (fstE (fstE (fstE (fstE (fstE (fstE (a) (chkL 16 chkSig m.types)) (chkL 16 chkNam m.imports)) (chkL 16 chkFun m.funcs)) (okE (decide (0 ≤ m.table)) 1)) (okE (decide (m.table ≤ 16)) 2)) (okE (pgOk m.pages m.most) 1)) (okE (decide (m.most ≤ 8)) 2)) (chkL 8 chkGlo m.globals)) (chkL 8 chkNam m.exports))) := hk
  clear hk c HC1 xQ1 c0 c1 c2 c3 c4 c5 c6 c7 c8 c9 c10
  obtain ⟨c0, c1, c2, c3, c4, c5, c6, c7, c8, c9, c10⟩ := xQ.cell
  go_wp2_with fail
  refine (cnumber K _ _ m.start HK.out).mono ?_
  rintro r w10 ⟨rfl, hk, c⟩
  have xQ1 := xQ.chg c hQK
  clear xQ
  have xQ := xQ1
  have HC1 : Hid (Chg K w w10) := HC.out.trans c
  clear HC
  have HC : Hid (Chg K w w10) := HC1.out
  clear HK
  have HK : Hid (CK w10 K (fstE (fstE (fstE (fstE (fstE (fstE (fstE (fstE (fstE (fstE (a) (chkL 16 chkSig m.types)) (chkL 16 chkNam m.imports)) (chkL 16 chkFun m.funcs)) (okE (decide (0 ≤ m.table)) 1)) (okE (decide (m.table ≤ 16)) 2)) (okE (pgOk m.pages m.most) 1)) (okE (decide (m.most ≤ 8)) 2)) (chkL 8 chkGlo m.globals)) (chkL 8 chkNam m.exports)) (chkNum m.start))) := hk
  clear hk c HC1 xQ1 c0 c1 c2 c3 c4 c5 c6 c7 c8 c9 c10
  obtain ⟨c0, c1, c2, c3, c4, c5, c6, c7, c8, c9, c10⟩ := xQ.cell
  go_wp2_with fail
  refine (each_ele K N w0 _ 4 _ chkEle m.elems m.oL m.elems.length m.cL rfl HM.out.elems.le HM.out.elems.most (HM.out.elems.atN hN0) HK.out (below_chg HBW.out HC.out hNK hNw) hNK (Nat.le_trans hNw HC.out.size) (fun d hd w' a' hk hbb hnn => celem K N w0 w' a' d.a d.f hk hbb hNK hnn HA0.out hN4 hN0 (HM.out.elems.all d hd).2)).mono ?_
  rintro r w11 ⟨rfl, hk, c⟩
  have xQ1 := xQ.chg c hQK
  clear xQ
  have xQ := xQ1
  have HC1 : Hid (Chg K w w11) := HC.out.trans c
  clear HC
  have HC : Hid (Chg K w w11) := HC1.out
  clear HK
  have HK : Hid (CK w11 K (fstE (fstE (fstE (fstE (fstE (fstE (fstE (fstE (fstE (fstE (fstE (a) (chkL 16 chkSig m.types)) (chkL 16 chkNam m.imports)) (chkL 16 chkFun m.funcs)) (okE (decide (0 ≤ m.table)) 1)) (okE (decide (m.table ≤ 16)) 2)) (okE (pgOk m.pages m.most) 1)) (okE (decide (m.most ≤ 8)) 2)) (chkL 8 chkGlo m.globals)) (chkL 8 chkNam m.exports)) (chkNum m.start)) (chkL 4 chkEle m.elems))) := hk
  clear hk c HC1 xQ1 c0 c1 c2 c3 c4 c5 c6 c7 c8 c9 c10
  obtain ⟨c0, c1, c2, c3, c4, c5, c6, c7, c8, c9, c10⟩ := xQ.cell
  go_wp2_with fail
  refine (each_dat K N w0 _ 4 _ chkDat m.data m.oD m.data.length m.cD rfl HM.out.data.le HM.out.data.most (HM.out.data.atN hN0) HK.out (below_chg HBW.out HC.out hNK hNw) hNK (Nat.le_trans hNw HC.out.size) (fun d hd w' a' hk hbb hnn => cdata K N w0 w' a' d.a d.s hk hbb hNK hnn HA0.out hN4)).mono ?_
  rintro r w12 ⟨rfl, hk, c⟩
  have xQ1 := xQ.chg c hQK
  clear xQ
  have xQ := xQ1
  have HC1 : Hid (Chg K w w12) := HC.out.trans c
  clear HC
  have HC : Hid (Chg K w w12) := HC1.out
  clear HK
  have HK : Hid (CK w12 K (fstE (fstE (fstE (fstE (fstE (fstE (fstE (fstE (fstE (fstE (fstE (fstE (a) (chkL 16 chkSig m.types)) (chkL 16 chkNam m.imports)) (chkL 16 chkFun m.funcs)) (okE (decide (0 ≤ m.table)) 1)) (okE (decide (m.table ≤ 16)) 2)) (okE (pgOk m.pages m.most) 1)) (okE (decide (m.most ≤ 8)) 2)) (chkL 8 chkGlo m.globals)) (chkL 8 chkNam m.exports)) (chkNum m.start)) (chkL 4 chkEle m.elems)) (chkL 4 chkDat m.data))) := hk
  clear hk c HC1 xQ1 c0 c1 c2 c3 c4 c5 c6 c7 c8 c9 c10
  obtain ⟨c0, c1, c2, c3, c4, c5, c6, c7, c8, c9, c10⟩ := xQ.cell
  go_wp2
  go_end0
  refine ⟨rfl, ?_, HC.out⟩
  have := HK.out
  simp only [fstE_assoc] at this
  unfold mChk
  exact this
 ·go_wp2_with fail
  refine (need_any K _ _ 1 (decide (m.pages ≤ m.most)) HK.out).mono ?_
  rintro r w6 ⟨rfl, hk, c⟩
  have xQ1 := xQ.chg c hQK
  clear xQ
  have xQ := xQ1
  have HC1 : Hid (Chg K w w6) := HC.out.trans c
  clear HC
  have HC : Hid (Chg K w w6) := HC1.out
  clear HK
  have HK : Hid (CK w6 K (fstE (fstE (fstE (fstE (fstE (fstE (a) (chkL 16 chkSig m.types)) (chkL 16 chkNam m.imports)) (chkL 16 chkFun m.funcs)) (okE (decide (0 ≤ m.table)) 1)) (okE (decide (m.table ≤ 16)) 2)) (okE (decide (m.pages ≤ m.most)) 1))) := hk
  clear hk c HC1 xQ1 c0 c1 c2 c3 c4 c5 c6 c7 c8 c9 c10
  obtain ⟨c0, c1, c2, c3, c4, c5, c6, c7, c8, c9, c10⟩ := xQ.cell
  have HKP : Hid (CK w6 K (fstE (fstE (fstE (fstE (fstE (fstE (a) (chkL 16 chkSig m.types)) (chkL 16 chkNam m.imports)) (chkL 16 chkFun m.funcs)) (okE (decide (0 ≤ m.table)) 1)) (okE (decide (m.table ≤ 16)) 2)) (okE (pgOk m.pages m.most) 1))) := by
   have := HK.out
   unfold Hid
   rw [HPG.out, hp]
   rw [Bool.true_and]
   exact this
  clear HK
  have HK : Hid (CK w6 K (fstE (fstE (fstE (fstE (fstE (fstE (a) (chkL 16 chkSig m.types)) (chkL 16 chkNam m.imports)) (chkL 16 chkFun m.funcs)) (okE (decide (0 ≤ m.table)) 1)) (okE (decide (m.table ≤ 16)) 2)) (okE (pgOk m.pages m.most) 1))) := HKP.out
  clear HKP
  go_wp2_with fail
  refine (need_any K _ _ 2 (decide (m.most ≤ 8)) HK.out).mono ?_
  rintro r w7 ⟨rfl, hk, c⟩
  have xQ1 := xQ.chg c hQK
  clear xQ
  have xQ := xQ1
  have HC1 : Hid (Chg K w w7) := HC.out.trans c
  clear HC
  have HC : Hid (Chg K w w7) := HC1.out
  clear HK
  have HK : Hid (CK w7 K (fstE (fstE (fstE (fstE (fstE (fstE (fstE (a) (chkL 16 chkSig m.types)) (chkL 16 chkNam m.imports)) (chkL 16 chkFun m.funcs)) (okE (decide (0 ≤ m.table)) 1)) (okE (decide (m.table ≤ 16)) 2)) (okE (pgOk m.pages m.most) 1)) (okE (decide (m.most ≤ 8)) 2))) := hk
  clear hk c HC1 xQ1 c0 c1 c2 c3 c4 c5 c6 c7 c8 c9 c10
  obtain ⟨c0, c1, c2, c3, c4, c5, c6, c7, c8, c9, c10⟩ := xQ.cell
  go_wp2_with fail
  refine (each_glo K N w0 _ 8 _ chkGlo m.globals m.oG m.globals.length m.cG rfl HM.out.globals.le HM.out.globals.most (HM.out.globals.atN hN0) HK.out (below_chg HBW.out HC.out hNK hNw) hNK (Nat.le_trans hNw HC.out.size) (fun d hd w' a' hk hbb hnn => cglobal K N w0 w' a' d.k d.m d.s hk hbb hNK hnn)).mono ?_
  rintro r w8 ⟨rfl, hk, c⟩
  have xQ1 := xQ.chg c hQK
  clear xQ
  have xQ := xQ1
  have HC1 : Hid (Chg K w w8) := HC.out.trans c
  clear HC
  have HC : Hid (Chg K w w8) := HC1.out
  clear HK
  have HK : Hid (CK w8 K (fstE (fstE (fstE (fstE (fstE (fstE (fstE (fstE (a) (chkL 16 chkSig m.types)) (chkL 16 chkNam m.imports)) (chkL 16 chkFun m.funcs)) (okE (decide (0 ≤ m.table)) 1)) (okE (decide (m.table ≤ 16)) 2)) (okE (pgOk m.pages m.most) 1)) (okE (decide (m.most ≤ 8)) 2)) (chkL 8 chkGlo m.globals))) := hk
  clear hk c HC1 xQ1 c0 c1 c2 c3 c4 c5 c6 c7 c8 c9 c10
  obtain ⟨c0, c1, c2, c3, c4, c5, c6, c7, c8, c9, c10⟩ := xQ.cell
  go_wp2_with fail
  refine (each_exp K N w0 _ 8 _ chkNam m.exports m.oE m.exports.length m.cE rfl HM.out.exports.le HM.out.exports.most (HM.out.exports.atN hN0) HK.out (below_chg HBW.out HC.out hNK hNw) hNK (Nat.le_trans hNw HC.out.size) (fun d hd w' a' hk hbb hnn => cexport K N w0 w' a' d.s d.n hk hbb hNK hnn HA0.out hN4)).mono ?_
  rintro r w9 ⟨rfl, hk, c⟩
  have xQ1 := xQ.chg c hQK
  clear xQ
  have xQ := xQ1
  have HC1 : Hid (Chg K w w9) := HC.out.trans c
  clear HC
  have HC : Hid (Chg K w w9) := HC1.out
  clear HK
  have HK : Hid (CK w9 K (fstE (fstE (fstE (fstE (fstE (fstE (fstE (fstE (fstE (a) (chkL 16 chkSig m.types)) (chkL 16 chkNam m.imports)) (chkL 16 chkFun m.funcs)) (okE (decide (0 ≤ m.table)) 1)) (okE (decide (m.table ≤ 16)) 2)) (okE (pgOk m.pages m.most) 1)) (okE (decide (m.most ≤ 8)) 2)) (chkL 8 chkGlo m.globals)) (chkL 8 chkNam m.exports))) := hk
  clear hk c HC1 xQ1 c0 c1 c2 c3 c4 c5 c6 c7 c8 c9 c10
  obtain ⟨c0, c1, c2, c3, c4, c5, c6, c7, c8, c9, c10⟩ := xQ.cell
  go_wp2_with fail
  refine (cnumber K _ _ m.start HK.out).mono ?_
  rintro r w10 ⟨rfl, hk, c⟩
  have xQ1 := xQ.chg c hQK
  clear xQ
  have xQ := xQ1
  have HC1 : Hid (Chg K w w10) := HC.out.trans c
  clear HC
  have HC : Hid (Chg K w w10) := HC1.out
  clear HK
  have HK : Hid (CK w10 K (fstE (fstE (fstE (fstE (fstE (fstE (fstE (fstE (fstE (fstE (a) (chkL 16 chkSig m.types)) (chkL 16 chkNam m.imports)) (chkL 16 chkFun m.funcs)) (okE (decide (0 ≤ m.table)) 1)) (okE (decide (m.table ≤ 16)) 2)) (okE (pgOk m.pages m.most) 1)) (okE (decide (m.most ≤ 8)) 2)) (chkL 8 chkGlo m.globals)) (chkL 8 chkNam m.exports)) (chkNum m.start))) := hk
  clear hk c HC1 xQ1 c0 c1 c2 c3 c4 c5 c6 c7 c8 c9 c10
  obtain ⟨c0, c1, c2, c3, c4, c5, c6, c7, c8, c9, c10⟩ := xQ.cell
  go_wp2_with fail
  refine (each_ele K N w0 _ 4 _ chkEle m.elems m.oL m.elems.length m.cL rfl HM.out.elems.le HM.out.elems.most (HM.out.elems.atN hN0) HK.out (below_chg HBW.out HC.out hNK hNw) hNK (Nat.le_trans hNw HC.out.size) (fun d hd w' a' hk hbb hnn => celem K N w0 w' a' d.a d.f hk hbb hNK hnn HA0.out hN4 hN0 (HM.out.elems.all d hd).2)).mono ?_
  rintro r w11 ⟨rfl, hk, c⟩
  have xQ1 := xQ.chg c hQK
  clear xQ
  have xQ := xQ1
  have HC1 : Hid (Chg K w w11) := HC.out.trans c
  clear HC
  have HC : Hid (Chg K w w11) := HC1.out
  clear HK
  have HK : Hid (CK w11 K (fstE (fstE (fstE (fstE (fstE (fstE (fstE (fstE (fstE (fstE (fstE (a) (chkL 16 chkSig m.types)) (chkL 16 chkNam m.imports)) (chkL 16 chkFun m.funcs)) (okE (decide (0 ≤ m.table)) 1)) (okE (decide (m.table ≤ 16)) 2)) (okE (pgOk m.pages m.most) 1)) (okE (decide (m.most ≤ 8)) 2)) (chkL 8 chkGlo m.globals)) (chkL 8 chkNam m.exports)) (chkNum m.start)) (chkL 4 chkEle m.elems))) := hk
  clear hk c HC1 xQ1 c0 c1 c2 c3 c4 c5 c6 c7 c8 c9 c10
  obtain ⟨c0, c1, c2, c3, c4, c5, c6, c7, c8, c9, c10⟩ := xQ.cell
  go_wp2_with fail
  refine (each_dat K N w0 _ 4 _ chkDat m.data m.oD m.data.length m.cD rfl HM.out.data.le HM.out.data.most (HM.out.data.atN hN0) HK.out (below_chg HBW.out HC.out hNK hNw) hNK (Nat.le_trans hNw HC.out.size) (fun d hd w' a' hk hbb hnn => cdata K N w0 w' a' d.a d.s hk hbb hNK hnn HA0.out hN4)).mono ?_
  rintro r w12 ⟨rfl, hk, c⟩
  have xQ1 := xQ.chg c hQK
  clear xQ
  have xQ := xQ1
  have HC1 : Hid (Chg K w w12) := HC.out.trans c
  clear HC
  have HC : Hid (Chg K w w12) := HC1.out
  clear HK
  have HK : Hid (CK w12 K (fstE (fstE (fstE (fstE (fstE (fstE (fstE (fstE (fstE (fstE (fstE (fstE (a) (chkL 16 chkSig m.types)) (chkL 16 chkNam m.imports)) (chkL 16 chkFun m.funcs)) (okE (decide (0 ≤ m.table)) 1)) (okE (decide (m.table ≤ 16)) 2)) (okE (pgOk m.pages m.most) 1)) (okE (decide (m.most ≤ 8)) 2)) (chkL 8 chkGlo m.globals)) (chkL 8 chkNam m.exports)) (chkNum m.start)) (chkL 4 chkEle m.elems)) (chkL 4 chkDat m.data))) := hk
  clear hk c HC1 xQ1 c0 c1 c2 c3 c4 c5 c6 c7 c8 c9 c10
  obtain ⟨c0, c1, c2, c3, c4, c5, c6, c7, c8, c9, c10⟩ := xQ.cell
  go_wp2
  go_end0
  refine ⟨rfl, ?_, HC.out⟩
  have := HK.out
  simp only [fstE_assoc] at this
  unfold mChk
  exact this
theorem check_mod (m : ModD) (C : Array Value) (HCm : Hid (C = mcA m)) (w : World) (hA : Amb w) (hm : m.ok w) :
  Calls Tryz.prog 9 #[.agg C] w fun r w' => r = .returned (.int .i64 (mChk m)) ∧ Below w.heap.size w w' := by
 have b1 : Below w.heap.size w (w.alloc (.cells C 30)) := (Below.refl _ _).alloc (Nat.le_refl _) _
 have hs1 : (w.alloc (.cells C 30)).heap.size = w.heap.size + 1 := by simp
 have b2 : Below w.heap.size w ((w.alloc (.cells C 30)).alloc (.cells #[.int .i64 0] 43)) := b1.alloc (by rw [hs1]; omega) _
 have HR : Hid (((w.alloc (.cells C 30)).alloc (.cells #[.int .i64 0] 43)).heap[w.heap.size]? = some (.cells C 30 (0, 0))) := by
  unfold Hid
  rw [Below.heap_alloc _ _ _ (by rw [hs1]; omega)]
  exact new_block _ _
 have HK : Hid (CK ((w.alloc (.cells C 30)).alloc (.cells #[.int .i64 0] 43)) (w.heap.size + 1) 0) := by
  have := new_block (w.alloc (.cells C 30)) (.cells #[.int .i64 0] 43)
  rw [hs1] at this
  exact this
 have HI30 : Hid ((Tryz.prog.info? 30).map (·.size) = some C.size) := by unfold Hid; rw [HCm.out]; exact infoMod
 have HB2 : Hid (type_of% b2) := b2
 have h4 := hA.2.2
 have HCM : Hid (type_of% (cmodule (w.heap.size + 1) w.heap.size w ((w.alloc (.cells C 30)).alloc (.cells #[.int .i64 0] 43)) 0 m C HCm HK.out b2 (by omega) b2.size hA (by omega) (Nat.le_refl _) (Nat.le_refl _) hm)) := cmodule (w.heap.size + 1) w.heap.size w ((w.alloc (.cells C 30)).alloc (.cells #[.int .i64 0] 43)) 0 m C HCm HK.out b2 (by omega) b2.size hA (by omega) (Nat.le_refl _) (Nat.le_refl _) hm
 have HE : Hid (fstE 0 (mChk m) = mChk m) := fstE_zero _
 clear hA hm b1 b2 hs1
 go_enter Tryz.func9, Tryz.ntmps9
 go_wp2_with (refine wpList_load_row rfl 30 (.tmp 1) rfl w.heap.size rfl 30 C (0, 0) _ HR.out Tryz.underlying30 rfl HI30.out ?_)
 refine HCM.out.mono ?_
 rintro r w1 ⟨rfl, hk, c⟩
 rw [HE.out] at hk
 have hc := hk.c
 have HC : Hid (type_of% c) := c
 clear hk c HE HCM
 go_wp2
 go_ret
 exact ⟨rfl, HB2.out.trans (HC.out.below (by omega) HB2.out.size)⟩
end Go.Proofs.YtakpkdckajjooaaGreatDoor
namespace Go.Proofs.YtakpkdckajjooaaGreatDoor
set_option linter.unusedVariables false
open Go.RowKit
theorem fst0 (a b : Int) : fstE a b = 0 ↔ a = 0 ∧ b = 0 := ⟨fstE_eq, fun h => by rw [h.1, h.2]; rfl⟩
theorem okE0 (b : Bool) (e : Int) (h : e ≠ 0) : okE b e = 0 ↔ b = true := by
 unfold okE
 split <;> simp_all
theorem frst0 {α : Type} (f : α → Int) : ∀ L : List α, frst f L = 0 ↔ ∀ x ∈ L, f x = 0
 | [] => by simp [frst]
 | x :: L => by rw [frst, fst0, frst0 f L]; simp
theorem chkL0 {α : Type} (most : Int) (f : α → Int) (L : List α) : chkL most f L = 0 ↔ (L.length : Int) ≤ most ∧ ∀ x ∈ L, f x = 0 := by
 unfold chkL
 rw [fst0, okE0 _ _ (by decide), frst0, decide_eq_true_eq]
theorem chkKind0 (k : Int) : chkKind k = 0 ↔ isK k = true := okE0 _ _ (by decide)
theorem chkNum0 (n : Int) : chkNum n = 0 ↔ isNum n := by
 unfold chkNum
 rw [okE0 _ _ (by decide)]
 unfold numOk isNum
 simp
theorem s32_0 (n : Int) : s32 n = true ↔ isSgn 32 n := by
 unfold s32 isSgn
 simp
theorem chkKs0 (most : Int) (L : List Int) : chkL most chkKind L = 0 ↔ GKs most L := by
 rw [chkL0]
 unfold GKs
 simp only [chkKind0]
theorem chkNs0 (most : Int) (L : List Int) : chkL most chkNum L = 0 ↔ GNs most L := by
 rw [chkL0]
 unfold GNs
 simp only [chkNum0]
theorem chkSig0 (d : SigD) : chkSig d = 0 ↔ GSig d.val := by
 unfold chkSig GSig
 rw [fst0, chkKs0, chkKs0]
 rfl
theorem chkName0 (s : ByteArray) : chkName (nums s) = 0 ↔ GName (nums s) := by
 unfold chkName GName
 split
 ·exact ⟨fun h => absurd h (by decide), fun h => absurd h.1 (by omega)⟩
 ·rw [okE0 _ _ (by decide)]
  exact ⟨fun h => ⟨by omega, nums_byte s, h⟩, fun h => h.2.2⟩
theorem chkNam0 (d : NamD) : chkNam d = 0 ↔ GNam d.val := by
 unfold chkNam GNam
 rw [fst0, chkName0, chkNum0]
 rfl
theorem chkGlo0 (d : GloD) (h : inI d.s) : chkGlo d = 0 ↔ GGlo d.val := by
 unfold chkGlo GGlo
 rw [fst0, chkKind0, okE0 _ _ (by decide), Bool.or_eq_true, s32_0, beq_iff_eq]
 show isK d.k = true ∧ (d.k = 126 ∨ isSgn 32 d.s) ↔ isK d.k = true ∧ isSgn (bts d.k) d.s
 refine and_congr_right fun hk => ?_
 unfold bts
 split
 ·rename_i h6
  exact ⟨fun _ => Or.inr ⟨rfl, h.1, h.2⟩, fun _ => Or.inl h6⟩
 ·rename_i h6
  exact ⟨fun h => h.resolve_left h6, Or.inr⟩
theorem chkEle0 (d : EleD) : chkEle d = 0 ↔ GEle d.val := by
 unfold chkEle GEle
 rw [fst0, okE0 _ _ (by decide), s32_0, chkNs0]
 rfl
theorem chkDat0 (d : DatD) : chkDat d = 0 ↔ GDat d.val := by
 unfold chkDat GDat
 rw [fst0, okE0 _ _ (by decide), okE0 _ _ (by decide), s32_0, decide_eq_true_eq]
 show isSgn 32 d.a ∧ (d.s.size : Int) ≤ 64 ↔ isSgn 32 d.a ∧ (nums d.s).length ≤ 64 ∧ Bts (nums d.s)
 rw [nums_length]
 exact and_congr_right fun _ => ⟨fun h => ⟨by omega, nums_byte d.s⟩, fun h => by omega⟩
theorem nChk0 {w : World} {o : Option Addr} {b : List InsD} (h : LD w o b) : nChk b = 0 ↔ GBody (b.map InsD.val) := by
 unfold GBody
 rw [vRun_val b [] false h.lens, List.length_map]
 constructor
 ·intro h0
  obtain ⟨h1, h2, h3⟩ := nChk_zero b h0
  refine ⟨h1, fun v hv => ?_, h2, h3⟩
  obtain ⟨d, hd, rfl⟩ := List.mem_map.1 hv
  have := h.1 d hd
  exact ⟨this.a, this.op0, this.op1⟩
 ·rintro ⟨h1, _, h2, h3⟩
  exact nChk_of b h1 h2 h3
theorem chkFun0 {w : World} (d : FunD) (h : d.ok w) : chkFun d = 0 ↔ isNum d.t ∧ GCod d.cod := by
 unfold chkFun GCod
 rw [fst0, fst0, chkNum0, chkKs0]
 have e : okE (nChk d.b == 0) (nChk d.b) = 0 ↔ GBody (d.b.map InsD.val) := by
  rw [← nChk0 h.2.2.1]
  unfold okE
  split
  ·rename_i hz
   exact ⟨fun _ => by simpa using hz, fun _ => rfl⟩
  ·exact Iff.rfl
 rw [e, and_assoc]
 rfl
theorem all_map {α β : Type} (f : α → β) (G : β → Prop) (L : List α) : (∀ b ∈ L.map f, G b) ↔ ∀ a ∈ L, G (f a) := by simp
theorem GMod_def (d : DrV) : GMod d ↔ GL 16 GSig d.types ∧ GL 16 GNam d.imports ∧ GL 16 isNum d.ftypes ∧ (0 ≤ d.table ∧ d.table ≤ 16) ∧ (0 ≤ d.pages ∧ d.pages ≤ d.most ∧ d.most ≤ 8) ∧ GL 8 GGlo d.globals ∧ GL 8 GNam d.exports ∧ (0 ≤ d.start ∧ d.start ≤ 4294967295) ∧ GL 4 GEle d.elems ∧ GL 16 GCod d.codes ∧ GL 4 GDat d.data ∧ d.ftypes.length = d.codes.length := by
 unfold GMod
 constructor
 ·rintro ⟨h, hl⟩
  exact ⟨h 1 (by omega) (by omega), h 2 (by omega) (by omega), h 3 (by omega) (by omega), h 4 (by omega) (by omega), h 5 (by omega) (by omega), h 6 (by omega) (by omega), h 7 (by omega) (by omega), h 8 (by omega) (by omega), h 9 (by omega) (by omega), h 10 (by omega) (by omega), h 11 (by omega) (by omega), hl⟩
 ·rintro ⟨h1, h2, h3, h4, h5, h6, h7, h8, h9, h10, h11, hl⟩
  refine ⟨fun n hn hn2 => ?_, hl⟩
  match n, hn, hn2 with
  | 1, _, _ => exact h1
  | 2, _, _ => exact h2
  | 3, _, _ => exact h3
  | 4, _, _ => exact h4
  | 5, _, _ => exact h5
  | 6, _, _ => exact h6
  | 7, _, _ => exact h7
  | 8, _, _ => exact h8
  | 9, _, _ => exact h9
  | 10, _, _ => exact h10
  | 11, _, _ => exact h11
  | n + 12, _, h => omega
theorem GLmap {α β : Type} (most : Int) (f : α → β) (G : β → Prop) (chk : α → Int) (L : List α) (h : ∀ a ∈ L, chk a = 0 ↔ G (f a)) : chkL most chk L = 0 ↔ GL most G (L.map f) := by
 rw [chkL0]
 unfold GL
 rw [List.length_map, all_map]
 exact and_congr_right fun _ => ⟨fun k a ha => (h a ha).1 (k a ha), fun k a ha => (h a ha).2 (k a ha)⟩
theorem mChk0 {w : World} (m : ModD) (h : m.ok w) : mChk m = 0 ↔ GMod m.val := by
 rw [GMod_def]
 have e1 := GLmap 16 SigD.val GSig chkSig m.types fun d _ => chkSig0 d
 have e2 := GLmap 16 NamD.val GNam chkNam m.imports fun d _ => chkNam0 d
 have e6 := GLmap 8 GloD.val GGlo chkGlo m.globals fun d hd => chkGlo0 d (h.globals.all d hd).2.2
 have e7 := GLmap 8 NamD.val GNam chkNam m.exports fun d _ => chkNam0 d
 have e9 := GLmap 4 EleD.val GEle chkEle m.elems fun d _ => chkEle0 d
 have e11 := GLmap 4 DatD.val GDat chkDat m.data fun d _ => chkDat0 d
 have e3 : chkL 16 chkFun m.funcs = 0 ↔ GL 16 isNum (m.funcs.map FunD.t) ∧ GL 16 GCod (m.funcs.map FunD.cod) := by
  rw [chkL0]
  unfold GL
  rw [List.length_map, List.length_map, all_map, all_map]
  constructor
  ·rintro ⟨h1, h2⟩
   exact ⟨⟨h1, fun a ha => ((chkFun0 a (h.funcs.all a ha)).1 (h2 a ha)).1⟩, h1, fun a ha => ((chkFun0 a (h.funcs.all a ha)).1 (h2 a ha)).2⟩
  ·rintro ⟨⟨h1, h2⟩, _, h3⟩
   exact ⟨h1, fun a ha => (chkFun0 a (h.funcs.all a ha)).2 ⟨h2 a ha, h3 a ha⟩⟩
 unfold mChk
 simp only [fst0]
 rw [e1, e2, e3, e6, e7, e9, e11, okE0 _ _ (by decide), okE0 _ _ (by decide), okE0 _ _ (by decide), okE0 _ _ (by decide), chkNum0]
 unfold pgOk isNum
 rw [Bool.and_eq_true]
 simp only [decide_eq_true_eq]
 show _ ↔ GL 16 GSig (m.types.map SigD.val) ∧ GL 16 GNam (m.imports.map NamD.val) ∧ GL 16 isNum (m.funcs.map FunD.t) ∧ (0 ≤ m.table ∧ m.table ≤ 16) ∧ (0 ≤ m.pages ∧ m.pages ≤ m.most ∧ m.most ≤ 8) ∧ GL 8 GGlo (m.globals.map GloD.val) ∧ GL 8 GNam (m.exports.map NamD.val) ∧ (0 ≤ m.start ∧ m.start ≤ 4294967295) ∧ GL 4 GEle (m.elems.map EleD.val) ∧ GL 16 GCod (m.funcs.map FunD.cod) ∧ GL 4 GDat (m.data.map DatD.val) ∧ (m.funcs.map FunD.t).length = (m.funcs.map FunD.cod).length
 rw [List.length_map, List.length_map]
 constructor
 ·rintro ⟨a1, a2, ⟨a3, a4⟩, a5, a6, ⟨a7, a8⟩, a9, a10, a11, a12, a13, a14⟩
  exact ⟨a1, a2, a3, ⟨a5, a6⟩, ⟨a7, a8, a9⟩, a10, a11, a12, a13, a4, a14, rfl⟩
 ·rintro ⟨a1, a2, a3, ⟨a5, a6⟩, ⟨a7, a8, a9⟩, a10, a11, a12, a13, a4, a14, _⟩
  exact ⟨a1, a2, ⟨a3, a4⟩, a5, a6, ⟨a7, a8⟩, a9, a10, a11, a12, a13, a14⟩
end Go.Proofs.YtakpkdckajjooaaGreatDoor
