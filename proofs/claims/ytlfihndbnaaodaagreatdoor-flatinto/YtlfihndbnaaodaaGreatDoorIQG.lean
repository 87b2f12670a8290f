/-
 What Check says of a module.
-/
import Derived.Test.YtlfihndbnaaodaaGreatDoorIQT
import Derived.Test.YtlfihndbnaaodaaGreatDoorIQP
set_option maxHeartbeats 8000000
set_option maxRecDepth 1000000
namespace Go.Proofs.YtlfihndbnaaodaaGreatDoor
set_option linter.unusedVariables false
open Go.RowKit
def pgOk (p q : Int) : Bool := decide (0 ≤ p) && decide (p ≤ q)
def mChk (m : ModD) : Int := fstE (chkL 16 chkSig m.types) (fstE (chkL 16 chkNam m.imports) (fstE (chkL 16 chkFun m.funcs) (fstE (okE (decide (0 ≤ m.table)) 1) (fstE (okE (decide (m.table ≤ 16)) 2) (fstE (okE (pgOk m.pages m.most) 1) (fstE (okE (decide (m.most ≤ 8)) 2) (fstE (chkL 8 chkGlo m.globals) (fstE (chkL 8 chkNam m.exports) (fstE (chkNum m.start) (fstE (chkL 4 chkEle m.elems) (chkL 4 chkDat m.data)))))))))))
theorem RowsOf.atN {α : Type} {w0 : World} {k : Nat} {cs : α → List Value} {ok : World → α → Prop} {o : Option Addr} {cap N : Nat} {L : List α} (h : RowsOf w0 k cs ok o cap L) (hN : w0.heap.size ≤ N) : L = [] ∨ ∃ b f, o = some ⟨b, f, none⟩ ∧ b < N ∧ ∀ i (h : i < L.length) r, r < k → w0.cell? ⟨b, f + i * k + r, none⟩ = (cs (L[i]))[r]? := by
 rcases h.at' with h0 | ⟨b, f, h1, h2, h3⟩
 ·exact Or.inl h0
 ·exact Or.inr ⟨b, f, h1, by omega, h3⟩
theorem cmodule (K N : Nat) (w0 w : World) (a : Int) (m : ModD) (C : Array Value) (HCm : Hid (C = mcA m)) (h : CK w K a) (hb : Below N w0 w) (hNK : N ≤ K) (hNw : N ≤ w.heap.size) (hA0 : Amb w0) (hN4 : 5 ≤ N) (hN0 : w0.heap.size ≤ N) (hN1 : N ≤ w0.heap.size) (hm : m.ok w0) :
  Calls Tryz.prog 72 #[.pointer (some ⟨K, 0, none⟩), .agg C] w (CkOut K w (fstE a (mChk m))) := by
 have hKw := h.lt
 have bA : Below w.heap.size w (w.alloc (.cells C 30)) := (Below.refl _ _).alloc (Nat.le_refl _) _
 have HK : Hid (CK (w.alloc (.cells C 30)) K a) := h.under bA
 have HC : Hid (Chg K w (w.alloc (.cells C 30))) := Chg.of_below bA
 have HBW : Hid (Below N w0 w) := hb
 have HA0 : Hid (Amb w0) := hA0
 have HM : Hid (m.ok w0) := hm
 have xQ : X11 (w.alloc (.cells C 30)) w.heap.size (.slice m.oT m.types.length m.cT) (.slice m.oI m.imports.length m.cI) (.slice m.oF m.funcs.length m.cF) (.int .i64 m.table) (.int .i64 m.pages) (.int .i64 m.most) (.slice m.oG m.globals.length m.cG) (.slice m.oE m.exports.length m.cE) (.int .i64 m.start) (.slice m.oL m.elems.length m.cL) (.slice m.oD m.data.length m.cD) := by
  rw [HCm.out]
  exact new_block _ _
 have hQK : w.heap.size ≠ K := by omega
 obtain ⟨c0, c1, c2, c3, c4, c5, c6, c7, c8, c9, c10⟩ := xQ.cell
 clear h hb bA hA0 hm
 go_enter Tryz.func72, Tryz.ntmps72
 go_wp2_with fail
 refine (each_sig K N w0 _ 16 _ chkSig m.types m.oT m.types.length m.cT rfl HM.out.types.le HM.out.types.most (HM.out.types.atN hN0) HK.out (below_chg HBW.out HC.out hNK hNw) hNK (Nat.le_trans hNw HC.out.size) (fun d hd w' a' hk hbb hnn => csig K N w0 w' a' d.i d.r hk hbb hNK hnn HA0.out hN4 hN0 (HM.out.types.all d hd).1 (HM.out.types.all d hd).2)).mono ?_
 rintro r w1 ⟨rfl, hk, c⟩
 have xQ1 := xQ.chg c hQK
 clear xQ
 have xQ := xQ1
 have HC1 : Hid (Chg K w w1) := HC.out.trans c
 clear HC
 have HC : Hid (Chg K w w1) := HC1.out
 clear HK
 have HK : Hid (CK w1 K (fstE (a) (chkL 16 chkSig m.types))) := hk
 clear hk c HC1 xQ1 c0 c1 c2 c3 c4 c5 c6 c7 c8 c9 c10
 obtain ⟨c0, c1, c2, c3, c4, c5, c6, c7, c8, c9, c10⟩ := xQ.cell
 go_wp2_with fail
 refine (each_imp K N w0 _ 16 _ chkNam m.imports m.oI m.imports.length m.cI rfl HM.out.imports.le HM.out.imports.most (HM.out.imports.atN hN0) HK.out (below_chg HBW.out HC.out hNK hNw) hNK (Nat.le_trans hNw HC.out.size) (fun d hd w' a' hk hbb hnn => cimported K N w0 w' a' d.s d.n hk hbb hNK hnn HA0.out hN4)).mono ?_
 rintro r w2 ⟨rfl, hk, c⟩
 have xQ1 := xQ.chg c hQK
 clear xQ
 have xQ := xQ1
 have HC1 : Hid (Chg K w w2) := HC.out.trans c
 clear HC
 have HC : Hid (Chg K w w2) := HC1.out
 clear HK
 have HK : Hid (CK w2 K (fstE (fstE (a) (chkL 16 chkSig m.types)) (chkL 16 chkNam m.imports))) := hk
 clear hk c HC1 xQ1 c0 c1 c2 c3 c4 c5 c6 c7 c8 c9 c10
 obtain ⟨c0, c1, c2, c3, c4, c5, c6, c7, c8, c9, c10⟩ := xQ.cell
 go_wp2_with fail
 refine (each_fun K N w0 _ 16 _ chkFun m.funcs m.oF m.funcs.length m.cF rfl HM.out.funcs.le HM.out.funcs.most (HM.out.funcs.atN hN0) HK.out (below_chg HBW.out HC.out hNK hNw) hNK (Nat.le_trans hNw HC.out.size) (fun d hd w' a' hk hbb hnn => cfunction K N w0 w' a' d.t d.l d.o d.cap d.b hk hbb hNK hnn HA0.out hN4 hN0 (HM.out.funcs.all d hd).2.1 (fun w2 b2 => (HM.out.funcs.all d hd).2.2.1.below (b2.mono hN0)))).mono ?_
 rintro r w3 ⟨rfl, hk, c⟩
 have xQ1 := xQ.chg c hQK
 clear xQ
 have xQ := xQ1
 have HC1 : Hid (Chg K w w3) := HC.out.trans c
 clear HC
 have HC : Hid (Chg K w w3) := HC1.out
 clear HK
 have HK : Hid (CK w3 K (fstE (fstE (fstE (a) (chkL 16 chkSig m.types)) (chkL 16 chkNam m.imports)) (chkL 16 chkFun m.funcs))) := hk
 clear hk c HC1 xQ1 c0 c1 c2 c3 c4 c5 c6 c7 c8 c9 c10
 obtain ⟨c0, c1, c2, c3, c4, c5, c6, c7, c8, c9, c10⟩ := xQ.cell
 go_wp2_with fail
 refine (need_any K _ _ 1 (decide (0 ≤ m.table)) HK.out).mono ?_
 rintro r w4 ⟨rfl, hk, c⟩
 have xQ1 := xQ.chg c hQK
 clear xQ
 have xQ := xQ1
 have HC1 : Hid (Chg K w w4) := HC.out.trans c
 clear HC
 have HC : Hid (Chg K w w4) := HC1.out
 clear HK
 have HK : Hid (CK w4 K (fstE (fstE (fstE (fstE (a) (chkL 16 chkSig m.types)) (chkL 16 chkNam m.imports)) (chkL 16 chkFun m.funcs)) (okE (decide (0 ≤ m.table)) 1))) := hk
 clear hk c HC1 xQ1 c0 c1 c2 c3 c4 c5 c6 c7 c8 c9 c10
 obtain ⟨c0, c1, c2, c3, c4, c5, c6, c7, c8, c9, c10⟩ := xQ.cell
 go_wp2_with fail
 refine (need_any K _ _ 2 (decide (m.table ≤ 16)) HK.out).mono ?_
 rintro r w5 ⟨rfl, hk, c⟩
 have xQ1 := xQ.chg c hQK
 clear xQ
 have xQ := xQ1
 have HC1 : Hid (Chg K w w5) := HC.out.trans c
 clear HC
 have HC : Hid (Chg K w w5) := HC1.out
 clear HK
 have HK : Hid (CK w5 K (fstE (fstE (fstE (fstE (fstE (a) (chkL 16 chkSig m.types)) (chkL 16 chkNam m.imports)) (chkL 16 chkFun m.funcs)) (okE (decide (0 ≤ m.table)) 1)) (okE (decide (m.table ≤ 16)) 2))) := hk
 clear hk c HC1 xQ1 c0 c1 c2 c3 c4 c5 c6 c7 c8 c9 c10
 obtain ⟨c0, c1, c2, c3, c4, c5, c6, c7, c8, c9, c10⟩ := xQ.cell
 have HPG : Hid (pgOk m.pages m.most = (decide (0 ≤ m.pages) && decide (m.pages ≤ m.most))) := rfl
 rcases hp : (decide (0 ≤ m.pages) : Bool) with _ | _
 ·go_wp2_with fail
  refine (need_any K _ _ 1 false HK.out).mono ?_
  rintro r w6 ⟨rfl, hk, c⟩
  have xQ1 := xQ.chg c hQK
  clear xQ
  have xQ := xQ1
  have HC1 : Hid (Chg K w w6) := HC.out.trans c
  clear HC
  have HC : Hid (Chg K w w6) := HC1.out
  clear HK
  have HK : Hid (CK w6 K (fstE (fstE (fstE (fstE (fstE (fstE (a) (chkL 16 chkSig m.types)) (chkL 16 chkNam m.imports)) (chkL 16 chkFun m.funcs)) (okE (decide (0 ≤ m.table)) 1)) (okE (decide (m.table ≤ 16)) 2)) (okE false 1))) := hk
  clear hk c HC1 xQ1 c0 c1 c2 c3 c4 c5 c6 c7 c8 c9 c10
  obtain ⟨c0, c1, c2, c3, c4, c5, c6, c7, c8, c9, c10⟩ := xQ.cell
  have HKP : Hid (CK w6 K (fstE (fstE (fstE (fstE (fstE (fstE (a) (chkL 16 chkSig m.types)) (chkL 16 chkNam m.imports)) (chkL 16 chkFun m.funcs)) (okE (decide (0 ≤ m.table)) 1)) (okE (decide (m.table ≤ 16)) 2)) (okE (pgOk m.pages m.most) 1))) := by
   have := HK.out
   unfold Hid
   rw [HPG.out, hp]
   rw [Bool.false_and]
   exact this
  clear HK
  have HK : Hid (CK w6 K (fstE (fstE (fstE (fstE (fstE (fstE (a) (chkL 16 chkSig m.types)) (chkL 16 chkNam m.imports)) (chkL 16 chkFun m.funcs)) (okE (decide (0 ≤ m.table)) 1)) (okE (decide (m.table ≤ 16)) 2)) (okE (pgOk m.pages m.most) 1))) := HKP.out
  clear HKP
  go_wp2_with fail
  refine (need_any K _ _ 2 (decide (m.most ≤ 8)) HK.out).mono ?_
  rintro r w7 ⟨rfl, hk, c⟩
  have xQ1 := xQ.chg c hQK
  clear xQ
  have xQ := xQ1
  have HC1 : Hid (Chg K w w7) := HC.out.trans c
  clear HC
  have HC : Hid (Chg K w w7) := HC1.out
  clear HK
  have HK : Hid (CK w7 K (fstE (fstE (fstE (fstE (fstE (fstE (fstE (a) (chkL 16 chkSig m.types)) (chkL 16 chkNam m.imports)) (chkL 16 chkFun m.funcs)) (okE (decide (0 ≤ m.table)) 1)) (okE (decide (m.table ≤ 16)) 2)) (okE (pgOk m.pages m.most) 1)) (okE (decide (m.most ≤ 8)) 2))) := hk
  clear hk c HC1 xQ1 c0 c1 c2 c3 c4 c5 c6 c7 c8 c9 c10
  obtain ⟨c0, c1, c2, c3, c4, c5, c6, c7, c8, c9, c10⟩ := xQ.cell
  go_wp2_with fail
  refine (each_glo K N w0 _ 8 _ chkGlo m.globals m.oG m.globals.length m.cG rfl HM.out.globals.le HM.out.globals.most (HM.out.globals.atN hN0) HK.out (below_chg HBW.out HC.out hNK hNw) hNK (Nat.le_trans hNw HC.out.size) (fun d hd w' a' hk hbb hnn => cglobal K N w0 w' a' d.k d.m d.s hk hbb hNK hnn)).mono ?_
  rintro r w8 ⟨rfl, hk, c⟩
  have xQ1 := xQ.chg c hQK
  clear xQ
  have xQ := xQ1
  have HC1 : Hid (Chg K w w8) := HC.out.trans c
  clear HC
  have HC : Hid (Chg K w w8) := HC1.out
  clear HK
  have HK : Hid (CK w8 K (fstE (fstE (fstE (fstE (fstE (fstE (fstE (fstE (a) (chkL 16 chkSig m.types)) (chkL 16 chkNam m.imports)) (chkL 16 chkFun m.funcs)) (okE (decide (0 ≤ m.table)) 1)) (okE (decide (m.table ≤ 16)) 2)) (okE (pgOk m.pages m.most) 1)) (okE (decide (m.most ≤ 8)) 2)) (chkL 8 chkGlo m.globals))) := hk
  clear hk c HC1 xQ1 c0 c1 c2 c3 c4 c5 c6 c7 c8 c9 c10
  obtain ⟨c0, c1, c2, c3, c4, c5, c6, c7, c8, c9, c10⟩ := xQ.cell
  go_wp2_with fail
  refine (each_exp K N w0 _ 8 _ chkNam m.exports m.oE m.exports.length m.cE rfl HM.out.exports.le HM.out.exports.most (HM.out.exports.atN hN0) HK.out (below_chg HBW.out HC.out hNK hNw) hNK (Nat.le_trans hNw HC.out.size) (fun d hd w' a' hk hbb hnn => cexport K N w0 w' a' d.s d.n hk hbb hNK hnn HA0.out hN4)).mono ?_
  rintro r w9 ⟨rfl, hk, c⟩
  have xQ1 := xQ.chg c hQK
  clear xQ
  have xQ := xQ1
  have HC1 : Hid (Chg K w w9) := HC.out.trans c
  clear HC
  have HC : Hid (Chg K w w9) := HC1.out
  clear HK
  have HK : Hid (CK w9 K (fstE (fstE (fstE (fstE (fstE (fstE (fstE (fstE (fstE (a) (chkL 16 chkSig m.types)) (chkL 16 chkNam m.imports)) (chkL 16 chkFun m.funcs)) (okE (decide (0 ≤ m.table)) 1)) (okE (decide (m.table ≤ 16)) 2)) (okE (pgOk m.pages m.most) 1)) (okE (decide (m.most ≤ 8)) 2)) (chkL 8 chkGlo m.globals)) (chkL 8 chkNam m.exports))) := hk
  clear hk c HC1 xQ1 c0 c1 c2 c3 c4 c5 c6 c7 c8 c9 c10
  obtain ⟨c0, c1, c2, c3, c4, c5, c6, c7, c8, c9, c10⟩ := xQ.cell
  go_wp2_with fail
  refine (cnumber K _ _ m.start HK.out).mono ?_
  rintro r w10 ⟨rfl, hk, c⟩
  have xQ1 := xQ.chg c hQK
  clear xQ
  have xQ := xQ1
  have HC1 : Hid (Chg K w w10) := HC.out.trans c
  clear HC
  have HC : Hid (Chg K w w10) := HC1.out
  clear HK
  have HK : Hid (CK w10 K (fstE (fstE (fstE (fstE (fstE (fstE (fstE (fstE (fstE (fstE (a) (chkL 16 chkSig m.types)) (chkL 16 chkNam m.imports)) (chkL 16 chkFun m.funcs)) (okE (decide (0 ≤ m.table)) 1)) (okE (decide (m.table ≤ 16)) 2)) (okE (pgOk m.pages m.most) 1)) (okE (decide (m.most ≤ 8)) 2)) (chkL 8 chkGlo m.globals)) (chkL 8 chkNam m.exports)) (chkNum m.start))) := hk
  clear hk c HC1 xQ1 c0 c1 c2 c3 c4 c5 c6 c7 c8 c9 c10
  obtain ⟨c0, c1, c2, c3, c4, c5, c6, c7, c8, c9, c10⟩ := xQ.cell
  go_wp2_with fail
  refine (each_ele K N w0 _ 4 _ chkEle m.elems m.oL m.elems.length m.cL rfl HM.out.elems.le HM.out.elems.most (HM.out.elems.atN hN0) HK.out (below_chg HBW.out HC.out hNK hNw) hNK (Nat.le_trans hNw HC.out.size) (fun d hd w' a' hk hbb hnn => celem K N w0 w' a' d.a d.f hk hbb hNK hnn HA0.out hN4 hN0 (HM.out.elems.all d hd).2)).mono ?_
  rintro r w11 ⟨rfl, hk, c⟩
  have xQ1 := xQ.chg c hQK
  clear xQ
  have xQ := xQ1
  have HC1 : Hid (Chg K w w11) := HC.out.trans c
  clear HC
  have HC : Hid (Chg K w w11) := HC1.out
  clear HK
  have HK : Hid (CK w11 K (fstE (fstE (fstE (fstE (fstE (fstE (fstE (fstE (fstE (fstE (fstE (a) (chkL 16 chkSig m.types)) (chkL 16 chkNam m.imports)) (chkL 16 chkFun m.funcs)) (okE (decide (0 ≤ m.table)) 1)) (okE (decide (m.table ≤ 16)) 2)) (okE (pgOk m.pages m.most) 1)) (okE (decide (m.most ≤ 8)) 2)) (chkL 8 chkGlo m.globals)) (chkL 8 chkNam m.exports)) (chkNum m.start)) (chkL 4 chkEle m.elems))) := hk
  clear hk c HC1 xQ1 c0 c1 c2 c3 c4 c5 c6 c7 c8 c9 c10
  obtain ⟨c0, c1, c2, c3, c4, c5, c6, c7, c8, c9, c10⟩ := xQ.cell
  go_wp2_with fail
  refine (each_dat K N w0 _ 4 _ chkDat m.data m.oD m.data.length m.cD rfl HM.out.data.le HM.out.data.most (HM.out.data.atN hN0) HK.out (below_chg HBW.out HC.out hNK hNw) hNK (Nat.le_trans hNw HC.out.size) (fun d hd w' a' hk hbb hnn => cdata K N w0 w' a' d.a d.s hk hbb hNK hnn HA0.out hN4)).mono ?_
  rintro r w12 ⟨rfl, hk, c⟩
  have xQ1 := xQ.chg c hQK
  clear xQ
  have xQ := xQ1
  have HC1 : Hid (Chg K w w12) := HC.out.trans c
  clear HC
  have HC : Hid (Chg K w w12) := HC1.out
  clear HK
  have HK : Hid (CK w12 K (fstE (fstE (fstE (fstE (fstE (fstE (fstE (fstE (fstE (fstE (fstE (fstE (a) (chkL 16 chkSig m.types)) (chkL 16 chkNam m.imports)) (chkL 16 chkFun m.funcs)) (okE (decide (0 ≤ m.table)) 1)) (okE (decide (m.table ≤ 16)) 2)) (okE (pgOk m.pages m.most) 1)) (okE (decide (m.most ≤ 8)) 2)) (chkL 8 chkGlo m.globals)) (chkL 8 chkNam m.exports)) (chkNum m.start)) (chkL 4 chkEle m.elems)) (chkL 4 chkDat m.data))) := hk
  clear hk c HC1 xQ1 c0 c1 c2 c3 c4 c5 c6 c7 c8 c9 c10
  obtain ⟨c0, c1, c2, c3, c4, c5, c6, c7, c8, c9, c10⟩ := xQ.cell
  go_wp2
  go_end0
  refine ⟨rfl, ?_, HC.out⟩
  have := HK.out
  simp only [fstE_assoc] at this
  unfold mChk
  exact this
 ·go_wp2_with fail
  refine (need_any K _ _ 1 (decide (m.pages ≤ m.most)) HK.out).mono ?_
  rintro r w6 ⟨rfl, hk, c⟩
  have xQ1 := xQ.chg c hQK
  clear xQ
  have xQ := xQ1
  have HC1 : Hid (Chg K w w6) := HC.out.trans c
  clear HC
  have HC : Hid (Chg K w w6) := HC1.out
  clear HK
  have HK : Hid (CK w6 K (fstE (fstE (fstE (fstE (fstE (fstE (a) (chkL 16 chkSig m.types)) (chkL 16 chkNam m.imports)) (chkL 16 chkFun m.funcs)) (okE (decide (0 ≤ m.table)) 1)) (okE (decide (m.table ≤ 16)) 2)) (okE (decide (m.pages ≤ m.most)) 1))) := hk
  clear hk c HC1 xQ1 c0 c1 c2 c3 c4 c5 c6 c7 c8 c9 c10
  obtain ⟨c0, c1, c2, c3, c4, c5, c6, c7, c8, c9, c10⟩ := xQ.cell
  have HKP : Hid (CK w6 K (fstE (fstE (fstE (fstE (fstE (fstE (a) (chkL 16 chkSig m.types)) (chkL 16 chkNam m.imports)) (chkL 16 chkFun m.funcs)) (okE (decide (0 ≤ m.table)) 1)) (okE (decide (m.table ≤ 16)) 2)) (okE (pgOk m.pages m.most) 1))) := by
   have := HK.out
   unfold Hid
   rw [HPG.out, hp]
   rw [Bool.true_and]
   exact this
  clear HK
  have HK : Hid (CK w6 K (fstE (fstE (fstE (fstE (fstE (fstE (a) (chkL 16 chkSig m.types)) (chkL 16 chkNam m.imports)) (chkL 16 chkFun m.funcs)) (okE (decide (0 ≤ m.table)) 1)) (okE (decide (m.table ≤ 16)) 2)) (okE (pgOk m.pages m.most) 1))) := HKP.out
  clear HKP
  go_wp2_with fail
  refine (need_any K _ _ 2 (decide (m.most ≤ 8)) HK.out).mono ?_
  rintro r w7 ⟨rfl, hk, c⟩
  have xQ1 := xQ.chg c hQK
  clear xQ
  have xQ := xQ1
  have HC1 : Hid (Chg K w w7) := HC.out.trans c
  clear HC
  have HC : Hid (Chg K w w7) := HC1.out
  clear HK
  have HK : Hid (CK w7 K (fstE (fstE (fstE (fstE (fstE (fstE (fstE (a) (chkL 16 chkSig m.types)) (chkL 16 chkNam m.imports)) (chkL 16 chkFun m.funcs)) (okE (decide (0 ≤ m.table)) 1)) (okE (decide (m.table ≤ 16)) 2)) (okE (pgOk m.pages m.most) 1)) (okE (decide (m.most ≤ 8)) 2))) := hk
  clear hk c HC1 xQ1 c0 c1 c2 c3 c4 c5 c6 c7 c8 c9 c10
  obtain ⟨c0, c1, c2, c3, c4, c5, c6, c7, c8, c9, c10⟩ := xQ.cell
  go_wp2_with fail
  refine (each_glo K N w0 _ 8 _ chkGlo m.globals m.oG m.globals.length m.cG rfl HM.out.globals.le HM.out.globals.most (HM.out.globals.atN hN0) HK.out (below_chg HBW.out HC.out hNK hNw) hNK (Nat.le_trans hNw HC.out.size) (fun d hd w' a' hk hbb hnn => cglobal K N w0 w' a' d.k d.m d.s hk hbb hNK hnn)).mono ?_
  rintro r w8 ⟨rfl, hk, c⟩
  have xQ1 := xQ.chg c hQK
  clear xQ
  have xQ := xQ1
  have HC1 : Hid (Chg K w w8) := HC.out.trans c
  clear HC
  have HC : Hid (Chg K w w8) := HC1.out
  clear HK
  have HK : Hid (CK w8 K (fstE (fstE (fstE (fstE (fstE (fstE (fstE (fstE (a) (chkL 16 chkSig m.types)) (chkL 16 chkNam m.imports)) (chkL 16 chkFun m.funcs)) (okE (decide (0 ≤ m.table)) 1)) (okE (decide (m.table ≤ 16)) 2)) (okE (pgOk m.pages m.most) 1)) (okE (decide (m.most ≤ 8)) 2)) (chkL 8 chkGlo m.globals))) := hk
  clear hk c HC1 xQ1 c0 c1 c2 c3 c4 c5 c6 c7 c8 c9 c10
  obtain ⟨c0, c1, c2, c3, c4, c5, c6, c7, c8, c9, c10⟩ := xQ.cell
  go_wp2_with fail
  refine (each_exp K N w0 _ 8 _ chkNam m.exports m.oE m.exports.length m.cE rfl HM.out.exports.le HM.out.exports.most (HM.out.exports.atN hN0) HK.out (below_chg HBW.out HC.out hNK hNw) hNK (Nat.le_trans hNw HC.out.size) (fun d hd w' a' hk hbb hnn => cexport K N w0 w' a' d.s d.n hk hbb hNK hnn HA0.out hN4)).mono ?_
  rintro r w9 ⟨rfl, hk, c⟩
  have xQ1 := xQ.chg c hQK
  clear xQ
  have xQ := xQ1
  have HC1 : Hid (Chg K w w9) := HC.out.trans c
  clear HC
  have HC : Hid (Chg K w w9) := HC1.out
  clear HK
  have HK : Hid (CK w9 K (fstE (fstE (fstE (fstE (fstE (fstE (fstE (fstE (fstE (a) (chkL 16 chkSig m.types)) (chkL 16 chkNam m.imports)) (chkL 16 chkFun m.funcs)) (okE (decide (0 ≤ m.table)) 1)) (okE (decide (m.table ≤ 16)) 2)) (okE (pgOk m.pages m.most) 1)) (okE (decide (m.most ≤ 8)) 2)) (chkL 8 chkGlo m.globals)) (chkL 8 chkNam m.exports))) := hk
  clear hk c HC1 xQ1 c0 c1 c2 c3 c4 c5 c6 c7 c8 c9 c10
  obtain ⟨c0, c1, c2, c3, c4, c5, c6, c7, c8, c9, c10⟩ := xQ.cell
  go_wp2_with fail
  refine (cnumber K _ _ m.start HK.out).mono ?_
  rintro r w10 ⟨rfl, hk, c⟩
  have xQ1 := xQ.chg c hQK
  clear xQ
  have xQ := xQ1
  have HC1 : Hid (Chg K w w10) := HC.out.trans c
  clear HC
  have HC : Hid (Chg K w w10) := HC1.out
  clear HK
  have HK : Hid (CK w10 K (fstE (fstE (fstE (fstE (fstE (fstE (fstE (fstE (fstE (fstE (a) (chkL 16 chkSig m.types)) (chkL 16 chkNam m.imports)) (chkL 16 chkFun m.funcs)) (okE (decide (0 ≤ m.table)) 1)) (okE (decide (m.table ≤ 16)) 2)) (okE (pgOk m.pages m.most) 1)) (okE (decide (m.most ≤ 8)) 2)) (chkL 8 chkGlo m.globals)) (chkL 8 chkNam m.exports)) (chkNum m.start))) := hk
  clear hk c HC1 xQ1 c0 c1 c2 c3 c4 c5 c6 c7 c8 c9 c10
  obtain ⟨c0, c1, c2, c3, c4, c5, c6, c7, c8, c9, c10⟩ := xQ.cell
  go_wp2_with fail
  refine (each_ele K N w0 _ 4 _ chkEle m.elems m.oL m.elems.length m.cL rfl HM.out.elems.le HM.out.elems.most (HM.out.elems.atN hN0) HK.out (below_chg HBW.out HC.out hNK hNw) hNK (Nat.le_trans hNw HC.out.size) (fun d hd w' a' hk hbb hnn => celem K N w0 w' a' d.a d.f hk hbb hNK hnn HA0.out hN4 hN0 (HM.out.elems.all d hd).2)).mono ?_
  rintro r w11 ⟨rfl, hk, c⟩
  have xQ1 := xQ.chg c hQK
  clear xQ
  have xQ := xQ1
  have HC1 : Hid (Chg K w w11) := HC.out.trans c
  clear HC
  have HC : Hid (Chg K w w11) := HC1.out
  clear HK
  have HK : Hid (CK w11 K (fstE (fstE (fstE (fstE (fstE (fstE (fstE (fstE (fstE (fstE (fstE (a) (chkL 16 chkSig m.types)) (chkL 16 chkNam m.imports)) (chkL 16 chkFun m.funcs)) (okE (decide (0 ≤ m.table)) 1)) (okE (decide (m.table ≤ 16)) 2)) (okE (pgOk m.pages m.most) 1)) (okE (decide (m.most ≤ 8)) 2)) (chkL 8 chkGlo m.globals)) (chkL 8 chkNam m.exports)) (chkNum m.start)) (chkL 4 chkEle m.elems))) := hk
  clear hk c HC1 xQ1 c0 c1 c2 c3 c4 c5 c6 c7 c8 c9 c10
  obtain ⟨c0, c1, c2, c3, c4, c5, c6, c7, c8, c9, c10⟩ := xQ.cell
  go_wp2_with fail
  refine (each_dat K N w0 _ 4 _ chkDat m.data m.oD m.data.length m.cD rfl HM.out.data.le HM.out.data.most (HM.out.data.atN hN0) HK.out (below_chg HBW.out HC.out hNK hNw) hNK (Nat.le_trans hNw HC.out.size) (fun d hd w' a' hk hbb hnn => cdata K N w0 w' a' d.a d.s hk hbb hNK hnn HA0.out hN4)).mono ?_
  rintro r w12 ⟨rfl, hk, c⟩
  have xQ1 := xQ.chg c hQK
  clear xQ
  have xQ := xQ1
  have HC1 : Hid (Chg K w w12) := HC.out.trans c
  clear HC
  have HC : Hid (Chg K w w12) := HC1.out
  clear HK
  have HK : Hid (CK w12 K (fstE (fstE (fstE (fstE (fstE (fstE (fstE (fstE (fstE (fstE (fstE (fstE (a) (chkL 16 chkSig m.types)) (chkL 16 chkNam m.imports)) (chkL 16 chkFun m.funcs)) (okE (decide (0 ≤ m.table)) 1)) (okE (decide (m.table ≤ 16)) 2)) (okE (pgOk m.pages m.most) 1)) (okE (decide (m.most ≤ 8)) 2)) (chkL 8 chkGlo m.globals)) (chkL 8 chkNam m.exports)) (chkNum m.start)) (chkL 4 chkEle m.elems)) (chkL 4 chkDat m.data))) := hk
  clear hk c HC1 xQ1 c0 c1 c2 c3 c4 c5 c6 c7 c8 c9 c10
  obtain ⟨c0, c1, c2, c3, c4, c5, c6, c7, c8, c9, c10⟩ := xQ.cell
  go_wp2
  go_end0
  refine ⟨rfl, ?_, HC.out⟩
  have := HK.out
  simp only [fstE_assoc] at this
  unfold mChk
  exact this
theorem check_mod (m : ModD) (C : Array Value) (HCm : Hid (C = mcA m)) (w : World) (hA : Amb w) (hm : m.ok w) :
  Calls Tryz.prog 40 #[.agg C] w fun r w' => r = .returned (.int .i64 (mChk m)) ∧ Below w.heap.size w w' := by
 have b1 : Below w.heap.size w (w.alloc (.cells C 30)) := (Below.refl _ _).alloc (Nat.le_refl _) _
 have hs1 : (w.alloc (.cells C 30)).heap.size = w.heap.size + 1 := by simp
 have b2 : Below w.heap.size w ((w.alloc (.cells C 30)).alloc (.cells #[.int .i64 0] 137)) := b1.alloc (by rw [hs1]; omega) _
 have HR : Hid (((w.alloc (.cells C 30)).alloc (.cells #[.int .i64 0] 137)).heap[w.heap.size]? = some (.cells C 30 (0, 0))) := by
  unfold Hid
  rw [Below.heap_alloc _ _ _ (by rw [hs1]; omega)]
  exact new_block _ _
 have HK : Hid (CK ((w.alloc (.cells C 30)).alloc (.cells #[.int .i64 0] 137)) (w.heap.size + 1) 0) := by
  have := new_block (w.alloc (.cells C 30)) (.cells #[.int .i64 0] 137)
  rw [hs1] at this
  exact this
 have HI30 : Hid ((Tryz.prog.info? 30).map (·.size) = some C.size) := by unfold Hid; rw [HCm.out]; exact infoMod
 have HB2 : Hid (type_of% b2) := b2
 have h4 := hA.2.2
 have HCM : Hid (type_of% (cmodule (w.heap.size + 1) w.heap.size w ((w.alloc (.cells C 30)).alloc (.cells #[.int .i64 0] 137)) 0 m C HCm HK.out b2 (by omega) b2.size hA (by omega) (Nat.le_refl _) (Nat.le_refl _) hm)) := cmodule (w.heap.size + 1) w.heap.size w ((w.alloc (.cells C 30)).alloc (.cells #[.int .i64 0] 137)) 0 m C HCm HK.out b2 (by omega) b2.size hA (by omega) (Nat.le_refl _) (Nat.le_refl _) hm
 have HE : Hid (fstE 0 (mChk m) = mChk m) := fstE_zero _
 clear hA hm b1 b2 hs1
 go_enter Tryz.func40, Tryz.ntmps40
 go_wp2_with (refine wpList_load_row rfl 30 (.tmp 1) rfl w.heap.size rfl 30 C (0, 0) _ HR.out Tryz.underlying30 rfl HI30.out ?_)
 refine HCM.out.mono ?_
 rintro r w1 ⟨rfl, hk, c⟩
 rw [HE.out] at hk
 have hc := hk.c
 have HC : Hid (type_of% c) := c
 clear hk c HE HCM
 go_wp2
 go_ret
 exact ⟨rfl, HB2.out.trans (HC.out.below (by omega) HB2.out.size)⟩
end Go.Proofs.YtlfihndbnaaodaaGreatDoor
