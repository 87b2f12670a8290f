/-
  What the program's own nest.Read does.
-/
import Derived.Test.YtakpkdckajjooaaGreatDoorPNRow
set_option maxHeartbeats 8000000
set_option maxRecDepth 1000000
namespace Go.Proofs.YtakpkdckajjooaaGreatDoor
set_option linter.unusedVariables false
open Go.RowKit
theorem nRd_round (f : Nat) (l bs : List Int) (h : (mIns l 0).e = 0) : nRd (f + 1) l bs = (if (nStep (mIns l 0).val.chk (mIns l 0).op bs false).1 = 0 then
        (if (nStep (mIns l 0).val.chk (mIns l 0).op bs false).2.2 = true then (0, [(mIns l 0).val], (mIns l 0).l)
         else appR [(mIns l 0).val] (nRd f (mIns l 0).l (nStep (mIns l 0).val.chk (mIns l 0).op bs false).2.1))
       else ((nStep (mIns l 0).val.chk (mIns l 0).op bs false).1, [], [])) := by
  rw [nRd, if_pos h]
theorem nRd_err (f : Nat) (l bs : List Int) (h : (mIns l 0).e ≠ 0) : nRd f l bs = ((mIns l 0).e, [], []) := by
  cases f <;> rw [nRd, if_neg h]
theorem nRd_large (l bs : List Int) (h : (mIns l 0).e = 0) : nRd 0 l bs = (2, [], []) := by
  rw [nRd, if_pos h]
def fin (en : Bool) (V : List V4) (f : Nat) (l bs : List Int) (R : Int × List V4 × List Int) : Prop := if en = true then (0, V, l) = R else appR V (nRd f l bs) = R
theorem nread_core (s : ByteArray) (hs : s.size ≤ maxLen) (R : Int × List V4 × List Int) (w : World) (HR0 : Hid (appR [] (nRd 200 (nums s) []) = R))
    (HRD : Hid (∀ (a : Nat) w', Below w.heap.size w w' → Calls Tryz.prog 228 #[.string (s.extract a s.size)] w' fun r w'' => Below w'.heap.size w' w'' ∧
      ((¬ (mIns ((nums s).drop a) 0).e = 0 ∧ r = .returned (.tuple #[.agg #[.int .u8 0, .int .i64 0, .int .i64 0, .slice none 0 0], .int .i64 0, .int .i64 (mIns ((nums s).drop a) 0).e])) ∨
       ((mIns ((nums s).drop a) 0).e = 0 ∧ ∃ v, r = .returned (.tuple #[.agg #[.int .u8 (mIns ((nums s).drop a) 0).op, .int .i64 (mIns ((nums s).drop a) 0).A, .int .i64 (mIns ((nums s).drop a) 0).B, v], .int .i64 ((((nums s).drop a).length : Int) - ((mIns ((nums s).drop a) 0).l.length : Int)), .int .i64 0]) ∧ IsI w'' w'.heap.size v (mIns ((nums s).drop a) 0).To))))
    (HCK : Hid (∀ d : InsD, ∀ w', Below w.heap.size w w' → d.ok w' → Calls Tryz.prog 197 #[.agg #[.int .u8 d.op, .int .i64 d.A, .int .i64 d.B, .slice d.o d.n d.cap]] w' fun r w'' => r = .returned (.int .i64 (chkD d)) ∧ Below w'.heap.size w' w'')) :
    Calls Tryz.prog 215 #[.string s] w fun r w' => Below w.heap.size w w' ∧ ((R.1 ≠ 0 ∧ r = .returned (.tuple #[.slice none 0 0, .int .i64 0, .int .i64 R.1])) ∨
      (R.1 = 0 ∧ ∃ (o : Option Addr) (cap : Nat) (L : List InsD), r = .returned (.tuple #[.slice o L.length cap, .int .i64 ((s.size : Int) - (R.2.2.length : Int)), .int .i64 0]) ∧ IR w' w.heap.size o L.length cap L ∧ L.map InsD.val = R.2.1)) := by
  obtain ⟨i0, hi, hz0, hz1, hz2⟩ := info_parts Tryz.infoIns
  have hm : s.size ≤ 9223372036854775807 := by unfold maxLen at hs; omega
  have hbyte : ∀ b ∈ nums s, 0 ≤ b ∧ b < 256 := nums_byte s
  have HBy : Hid (type_of% hbyte) := hbyte
  have hnl : (nums s).length = s.size := nums_length s
  have HNL : Hid (type_of% hnl) := hnl
  have HN0 : Hid (NS (w.alloc (.cells #[.slice none 0 0, .bool false] 216)) w.heap.size w.heap.size [] false) := ⟨none, 0, new_block _ _, World.ownsRow_nil _ _ _ _, by simp, Nat.le_refl _⟩
  have HB0 : Hid (Below w.heap.size w (w.alloc (.cells #[.slice none 0 0, .bool false] 216))) := (Below.refl _ _).alloc (Nat.le_refl _) _
  have HI0 : Hid (IR (w.alloc (.cells #[.slice none 0 0, .bool false] 216)) w.heap.size none 0 0 []) := IR.nil _ _
  clear hbyte hnl
  go_enter Tryz.func215, Tryz.ntmps215
  go_wp2
  go_loopw [5, 7] (fun lst av wr => ∃ k a cap : Nat, ∃ o : Option Addr, ∃ L : List InsD, ∃ bs : List Int, ∃ en : Bool, lst = .slice o k cap ∧ av = .int .i64 (a : Int) ∧ k ≤ 200 ∧ a ≤ s.size ∧ bs.length ≤ 12 ∧ Hid (NS wr w.heap.size w.heap.size bs en) ∧ Hid (IR wr w.heap.size o k cap L) ∧ Hid (fin en (L.map InsD.val) (200 - k) ((nums s).drop a) bs R) ∧ Hid (Below w.heap.size w wr)) (fun _ av _ => s.size - (intOf av).toNat)
  case atStart => exact ⟨0, 0, 0, none, [], [], false, rfl, rfl, by omega, by omega, by simp, HN0, HI0, HR0, HB0⟩
  case round =>
    obtain ⟨k, a, cap, o, L, bs, en, rfl, rfl, hk, ha, hbs, HN, HI, HQ, HB⟩ := hrel
    clear HN0 HB0 HI0 HR0
    have hc1 := HN.out.cells
    have hPw : w.heap.size < wr.heap.size := HN.out.lt
    cases en with
    | true =>
      go_wp2
      go_ret3
      have hQ : (0, L.map InsD.val, (nums s).drop a) = R := HQ.out
      subst hQ
      refine ⟨HB.out, Or.inr ⟨rfl, o, cap, L, ?_, ?_, rfl⟩⟩
      · rw [HI.out.len, List.length_drop, HNL.out]
        rw [show (s.size : Int) - ((s.size - a : Nat) : Int) = (a : Int) by omega]
        rfl
      · rw [HI.out.len]
        exact HI.out
    | false =>
      have hQ : appR (L.map InsD.val) (nRd (200 - k) ((nums s).drop a) bs) = R := HQ.out
      have HQ1 : Hid (type_of% hQ) := hQ
      clear hQ HQ
      have ha0 : (0 : Int) ≤ (a : Int) := by omega
      have ha1 : (a : Int) ≤ (s.size : Int) := by omega
      have hcl := (HI.out.capm).1
      have hcm := (HI.out.capm).2
      unfold maxLen at hcm
      go_wp2_with fail
      refine (HRD.out a _ HB.out).mono ?_
      rintro e w1 ⟨b1, h1⟩
      rcases h1 with ⟨he, rfl⟩ | ⟨he, v, rfl, hv⟩
      · have HQ2 : Hid (((mIns ((nums s).drop a) 0).e, [], []) = R) := by
          have := HQ1.out
          rw [nRd_err _ _ _ he, appR_err _ _ he] at this
          exact this
        have HB1 : Hid (Below w.heap.size w w1) := HB.out.trans (b1.mono (by omega))
        generalize (mIns ((nums s).drop a) 0).e = M at he HQ2
        have hb0 : (M == 0) = false := by rw [beq_eq_false_iff_ne]; exact he
        have hn0 : (M != 0) = true := by rw [bne, hb0]; rfl
        clear HQ1 HN HI HB b1
        go_wp2
        go_ret3
        refine ⟨HB1.out.alloc (by have := HB1.out.size; omega) _, Or.inl ?_⟩
        rw [← HQ2.out]
        exact ⟨he, rfl⟩
      · have hbyl : ∀ b ∈ (nums s).drop a, 0 ≤ b ∧ b < 256 := fun b hb => HBy.out b (List.mem_of_mem_drop hb)
        obtain ⟨⟨hop0, hop1⟩, hfit, hA, hlen⟩ := mIns_ok _ hbyl he
        have hsuf := suf_drop (mIns_suf ((nums s).drop a) 0)
        have HQ2 : Hid (k = 200 → (2, [], []) = R) := by
          intro hk2
          have := HQ1.out
          rw [hk2, Nat.sub_self, nRd_large _ _ he, appR_err _ _ (by decide)] at this
          exact this
        have HQ3 : Hid (k < 200 → appR (L.map InsD.val) (nRd (200 - k - 1 + 1) ((nums s).drop a) bs) = R) := by
          intro hk2
          have := HQ1.out
          rw [show 200 - k = 200 - k - 1 + 1 by omega] at this
          exact this
        have HQ4 : Hid (type_of% (nRd_round (200 - k - 1) ((nums s).drop a) bs he)) := nRd_round _ _ _ he
        have hTo : (mIns ((nums s).drop a) 0).To.length ≤ 1000 := by
          rcases hfit with h | h | h | h | h | h | h | h | h
          · rw [h.2.2.2]; simp
          · rw [h.2.2.2]; simp
          · rw [h.2.2.2]; simp
          · omega
          · rw [h.2.2.2]; simp
          · rw [h.2.2.2]; simp
          · rw [h.2.2.2]; simp
          · rw [h.2.2.2.2]; simp
          · rw [h.2.2]; simp
        rw [List.length_drop, HNL.out] at hlen hsuf
        have hdl : ((nums s).drop a).length = s.size - a := by rw [List.length_drop, HNL.out]
        rw [hdl]
        clear hbyl hfit HQ1 he hdl
        generalize mIns ((nums s).drop a) 0 = M at hop0 hop1 hA hlen hsuf HQ2 HQ3 HQ4 hTo hv
        obtain ⟨op, A, B, xs, lr, er⟩ := M
        simp only at hop0 hop1 hA hlen hsuf hTo hv
        have hszE : ((s.size - a : Nat) : Int) - (lr.length : Int) = ((s.size - a - lr.length : Nat) : Int) := by omega
        simp only [hszE]
        have hst : 1 ≤ s.size - a - lr.length := by omega
        have hsl : s.size - a - lr.length ≤ s.size - a := by omega
        have HLR : Hid (lr = (nums s).drop (a + (s.size - a - lr.length))) := by
          unfold Hid
          rw [List.drop_drop] at hsuf
          exact hsuf
        generalize s.size - a - lr.length = sz at hst hsl HLR
        obtain ⟨oT, rfl, hdok, hdty⟩ := hv.ins (B' := B) hop0 hop1 hA hTo
        have HB1 : Hid (Below w.heap.size w w1) := HB.out.trans (b1.mono (by omega))
        have hw1 : w.heap.size < w1.heap.size := Nat.lt_of_lt_of_le hPw b1.size
        have bA : Below w1.heap.size w1 (w1.alloc (.cells #[.int .u8 op, .int .i64 A, .int .i64 B, .slice oT xs.length xs.length] 161)) := (Below.refl _ _).alloc (Nat.le_refl _) _
        have HN1 : Hid (NS (w1.alloc (.cells #[.int .u8 op, .int .i64 A, .int .i64 B, .slice oT xs.length xs.length] 161)) w.heap.size w.heap.size bs false) := (HN.out.under b1).under bA
        have HI1 : Hid (IR (w1.alloc (.cells #[.int .u8 op, .int .i64 A, .int .i64 B, .slice oT xs.length xs.length] 161)) w.heap.size o k cap L) := (HI.out.under b1).under bA
        have HB2 : Hid (Below w.heap.size w (w1.alloc (.cells #[.int .u8 op, .int .i64 A, .int .i64 B, .slice oT xs.length xs.length] 161))) := HB1.out.trans (bA.mono (by omega))
        obtain ⟨d, hd⟩ : ∃ d : InsD, d = ⟨op, A, B, oT, xs.length, xs.length, xs⟩ := ⟨_, rfl⟩
        have HD : Hid (d.ok w1 ∧ (0 < d.n → ∃ (g : Addr) (cur : Array Value) (f : Nat × Nat), d.o = some g ∧ w1.heap[g.block]? = some (.cells cur 2 f))) := by
          rw [hd]
          exact ⟨hdok, hdty⟩
        have hXB : (w1.alloc (.cells #[.int .u8 op, .int .i64 A, .int .i64 B, .slice oT xs.length xs.length] 161)).heap[w1.heap.size]? = some (.cells #[.int .u8 op, .int .i64 A, .int .i64 B, .slice oT xs.length xs.length] 161 (0, 0)) := heap_alloc_new w1 _
        have HXB : Hid (type_of% hXB) := hXB
        have HCd : Hid (∀ w', Below w.heap.size w w' → d.ok w' → Calls Tryz.prog 197 #[.agg #[.int .u8 op, .int .i64 A, .int .i64 B, .slice oT xs.length xs.length]] w' fun r w'' => r = .returned (.int .i64 (chkD d)) ∧ Below w'.heap.size w' w'') := by
          have := HCK.out d
          rw [hd] at this ⊢
          exact this
        have hval : (Got.mk op A B xs lr er).val = d.val := by rw [hd]; rfl
        have hchk : d.val.chk = chkD d := val_chk d (by rw [hd])
        rw [hval, hchk] at HQ4
        dsimp only at HQ4
        have HDC : Hid (d.cells = [.int .u8 op, .int .i64 A, .int .i64 B, .slice oT xs.length xs.length]) := by rw [hd]; rfl
        have HDN : Hid (d.n = xs.length ∧ d.o = oT) := by rw [hd]; exact ⟨rfl, rfl⟩
        clear hd hdok hdty hval hchk hXB bA hop0 hop1 hA hTo hv HN HI HB b1
        generalize xs.length = nx at HDC HDN HCd HXB HB2 HI1 HN1
        by_cases hk2 : k = 200
        · subst hk2
          go_wp2
          go_ret3
          refine ⟨HB2.out, Or.inl ?_⟩
          rw [← HQ2.out trivial]
          exact ⟨by decide, rfl⟩
        · have hkl : k < 200 := by omega
          have hkb : ((k : Int) == 200) = false := by rw [beq_eq_false_iff_ne]; omega
          have hlen2 := nStep_len (chkD d) op bs false hbs
          have HST : Hid (∀ w', NS w' w.heap.size w.heap.size bs false → Below w.heap.size w w' → d.ok w' → Calls Tryz.prog 170 #[.pointer (some ⟨w.heap.size, 0, none⟩), .agg #[.int .u8 op, .int .i64 A, .int .i64 B, .slice oT nx nx]] w' fun r w'' => r = .returned (.int .i64 (nStep (chkD d) op bs false).1) ∧ NS w'' w.heap.size w.heap.size (nStep (chkD d) op bs false).2.1 (nStep (chkD d) op bs false).2.2 ∧ Below w.heap.size w' w'' ∧ NK w.heap.size w' w'') := fun w' hn hb hok => step_anyK w.heap.size w.heap.size bs false op A B (chkD d) oT nx nx w' hn hbs hb.size (fun w2 b2 => HCd.out w2 (hb.trans (b2.mono hb.size)) (hok.below b2))
          have HQ5 : Hid (type_of% (HQ3.out hkl)) := HQ3.out hkl
          rw [HQ4.out] at HQ5
          obtain ⟨⟨r0, bs2, en2⟩, hst2⟩ : ∃ m, nStep (chkD d) op bs false = m := ⟨_, rfl⟩
          rw [hst2] at HST HQ5 hlen2
          dsimp only at HST HQ5 hlen2
          have HDA : Hid (d.ok (w1.alloc (.cells #[.int .u8 op, .int .i64 A, .int .i64 B, .slice oT nx nx] 161)) ∧ (0 < d.n → ∃ (g : Addr) (cur : Array Value) (f : Nat × Nat), d.o = some g ∧ (w1.alloc (.cells #[.int .u8 op, .int .i64 A, .int .i64 B, .slice oT nx nx] 161)).heap[g.block]? = some (.cells cur 2 f))) := by
            refine ⟨HD.out.1.below ((Below.refl _ _).alloc (Nat.le_refl _) _), fun h0 => ?_⟩
            obtain ⟨g, cur, f, e1, e2⟩ := HD.out.2 h0
            exact ⟨g, cur, f, e1, by rw [Below.heap_alloc _ _ _ (some_lt e2)]; exact e2⟩
          clear hst2 HQ2 HQ3 HQ4 HCd HD
          go_wp2_with fail
          refine (HST.out _ HN1.out HB2.out HDA.out.1).mono ?_
          rintro e w2 ⟨rfl, n2, b2, k2⟩
          have hw2 : w.heap.size < w2.heap.size := n2.lt
          have HI2 : Hid (IR w2 w.heap.size o k cap L) := HI1.out.step HN1.out k2
          have HDB : Hid (d.ok w2 ∧ (0 < d.n → ∃ (g : Addr) (cur : Array Value) (f : Nat × Nat), d.o = some g ∧ w2.heap[g.block]? = some (.cells cur 2 f))) := by
            refine ⟨ok_keep HDA.out.1 k2.size fun h0 g hg => ?_, fun h0 => ?_⟩
            · obtain ⟨g', cur, f, e1, e2⟩ := HDA.out.2 h0
              rw [hg] at e1
              cases e1
              exact k2.typed HN1.out e2 (by decide) (by decide)
            · obtain ⟨g, cur, f, e1, e2⟩ := HDA.out.2 h0
              exact ⟨g, cur, f, e1, by rw [k2.typed HN1.out e2 (by decide) (by decide)]; exact e2⟩
          have xX : XS w2 w1.heap.size (.int .u8 op) (.int .i64 A) (.int .i64 B) (.slice oT nx nx) := by
            unfold XS
            rw [k2.typed HN1.out HXB.out (by decide) (by decide)]
            exact HXB.out
          obtain ⟨x0, x1, x2, x3⟩ := xX.cell
          have HN2 : Hid (type_of% n2) := n2
          have HB3 : Hid (Below w.heap.size w w2) := HB2.out.trans b2
          clear xX n2 b2 k2 HST HN1 HI1 HB2 HDA HXB
          by_cases hr0 : r0 = 0
          · subst hr0
            have HQ6 : Hid (fin en2 ((L ++ [d]).map InsD.val) (200 - (k + 1)) ((nums s).drop (a + sz)) bs2 R) := by
              have h5 := HQ5.out
              rw [if_pos rfl] at h5
              unfold Hid fin
              rw [List.map_append]
              cases en2 with
              | true =>
                rw [if_pos rfl] at h5 ⊢
                rw [← HLR.out, ← h5]
                rfl
              | false =>
                rw [if_neg (by decide)] at h5 ⊢
                rw [appR_app] at h5
                rw [← HLR.out, show 200 - (k + 1) = 200 - k - 1 by omega]
                exact h5
            clear HQ5
            go_wp2_with (at_builtin; refine wpList_append_lies _ rfl _ _ 56 rfl w.heap.size 161 i0 (.agg #[.int .u8 0, .int .i64 0, .int .i64 0, .slice none 0 0]) 4 48 Tryz.underlying56 hi hz0 hz1 hz2 rfl (by omega) _ k (cellsOf L) rfl (HI2.out.own.alloc _) ⟨w2.heap.size, 0, none⟩ 1 1 [.int .u8 op, .int .i64 A, .int .i64 B, .slice oT nx nx] rfl rfl (World.news_of_block (cs := #[.int .u8 op, .int .i64 A, .int .i64 B, .slice oT nx nx]) (t := 161) (fr := (0, 0)) (heap_alloc_new w2 _)) (by simp [Value.oneCell']) (by omega) (by unfold maxLen; omega) (by omega) (by simp; omega) (w2.heap.size + 1) (by simp) ?_)
            intro g capg w3 hown hgrow hat hlt
            have bA : Below w2.heap.size w2 (w2.alloc (.cells #[.int .u8 op, .int .i64 A, .int .i64 B, .slice oT nx nx] 161)) := (Below.refl _ _).alloc (Nat.le_refl _) _
            have HI3 : Hid (IR w3 w.heap.size (some ⟨g, 0, none⟩) (k + 1) capg (L ++ [d])) := by
              refine (HI2.out.under bA).app (HDB.out.1.below bA) (fun h0 => ?_) (by rw [HDC.out]; exact hown) hgrow
              obtain ⟨g', cur, f, e1, e2⟩ := HDB.out.2 h0
              exact ⟨g', cur, f, e1, by rw [bA.block _ (some_lt e2)]; exact e2⟩
            have HN3 : Hid (NS w3 w.heap.size w.heap.size bs2 en2) := (HN2.out.under bA).grown (HI2.out.under bA) hgrow
            have HB4 : Hid (Below w.heap.size w w3) := (HB3.out.alloc (by omega) _).grown hgrow (by simp; omega) (fun j hj => (HI2.out.own.lt j hj).1)
            clear hown hgrow hat hlt bA HI2 HN2 HB3 HDB x0 x1 x2 x3
            go_wp2
            go_roundw
            case rel => exact ⟨k + 1, a + sz, capg, _, L ++ [d], bs2, en2, rfl, by go_num, by omega, by omega, hlen2, HN3, HI3, HQ6, HB4⟩
            case measure => simp [intOf]; omega
          · have hb0 : (r0 == 0) = false := by rw [beq_eq_false_iff_ne]; exact hr0
            have hn0 : (r0 != 0) = true := by rw [bne, hb0]; rfl
            have HQ6 : Hid ((r0, [], []) = R) := by
              have h5 := HQ5.out
              rw [if_neg hr0, appR_err _ _ hr0] at h5
              exact h5
            clear HQ5
            go_wp2
            go_ret3
            refine ⟨HB3.out, Or.inl ?_⟩
            rw [← HQ6.out]
            exact ⟨hr0, rfl⟩
theorem nread_any (s : ByteArray) (hs : s.size ≤ maxLen) (w : World) (hT : TabIn w) (ht0 : 3 < w.heap.size) :
    Calls Tryz.prog 215 #[.string s] w fun r w' => Below w.heap.size w w' ∧ (((nRd 200 (nums s) []).1 ≠ 0 ∧ r = .returned (.tuple #[.slice none 0 0, .int .i64 0, .int .i64 (nRd 200 (nums s) []).1])) ∨
      ((nRd 200 (nums s) []).1 = 0 ∧ ∃ (o : Option Addr) (cap : Nat) (L : List InsD), r = .returned (.tuple #[.slice o L.length cap, .int .i64 ((s.size : Int) - ((nRd 200 (nums s) []).2.2.length : Int)), .int .i64 0]) ∧ IR w' w.heap.size o L.length cap L ∧ L.map InsD.val = (nRd 200 (nums s) []).2.1)) := by
  refine nread_core s hs _ w (appR_nil _ (nRd_form _ _ _)) (fun a w' b => ?_) (fun d w' b hk => ?_)
  · have := read_any (s.extract a s.size) (size_tail s a hs) w' (hT.chg (P := w.heap.size) (Chg.of_below b) ht0 (by omega)) (Nat.lt_of_lt_of_le ht0 b.size)
    rw [nums_tail, ← nums_length (s.extract a s.size), nums_tail] at this
    exact this
  · have hm := hk.most
    have hc := hk.cap
    unfold maxLen at hm
    exact check_any d.op d.A d.B d.o d.n d.cap d.xs hk.op0 hk.op1 hk.cap (by omega) w' hk.lj (hT.chg (P := w.heap.size) (Chg.of_below b) ht0 (by omega)) (Nat.lt_of_lt_of_le ht0 b.size)
end Go.Proofs.YtakpkdckajjooaaGreatDoor
