/-
  The document's own NestRead.
-/
import Derived.Test.YtmbficofcmfmlaaDoorNRd2
import Derived.Test.YtmbficofcmfmlaaDoorRMat
namespace Go.Proofs.YtmbficofcmfmlaaDoor
open Go.RowKit

theorem nRun_app : ∀ (L : List InsD) (d : InsD) (bs : List Int) (en : Bool), nRun (L ++ [d]) bs en = if (nRun L bs en).1 = 0 then nRun [d] (nRun L bs en).2.1 (nRun L bs en).2.2 else nRun L bs en
  | [], d, bs, en => by
    rw [List.nil_append, show nRun [] bs en = (0, bs, en) from rfl, if_pos rfl]
  | x :: L, d, bs, en => by
    rw [List.cons_append, nRun, nRun]
    by_cases h0 : (nStep (chkD x) x.op bs en).1 = 0
    · rw [if_pos h0, if_pos h0]
      exact nRun_app L d _ _
    · rw [if_neg h0, if_neg h0, if_neg h0]
theorem chkV_ne3 (op A B : Int) (n : Nat) (xs : List Int) : chkV op A B n xs ≠ 3 := by
  unfold chkV
  repeat' split
  all_goals decide
theorem nStep_ne3 (c op : Int) (bs : List Int) (en : Bool) (hc : c ≠ 3) : (nStep c op bs en).1 ≠ 3 := by
  unfold nStep
  repeat' split
  all_goals first | exact hc | simp
theorem nRun_one (d : InsD) (bs : List Int) : nRun [d] bs false = if (nStep (chkD d) d.op bs false).1 = 0 then (0, (nStep (chkD d) d.op bs false).2.1, (nStep (chkD d) d.op bs false).2.2) else nStep (chkD d) d.op bs false := rfl
theorem nChk_app (L : List InsD) (d : InsD) (bs : List Int) (h : nRun L [] false = (0, bs, false)) (hl : (L ++ [d]).length ≤ 200) : nChk (L ++ [d]) = if (nStep (chkD d) d.op bs false).1 = 0 then (if (nStep (chkD d) d.op bs false).2.2 = true then 0 else 3) else (nStep (chkD d) d.op bs false).1 := by
  rw [nChk_vd _ hl, nRun_app, h, if_pos rfl, nRun_one]
  unfold vd
  by_cases h0 : (nStep (chkD d) d.op bs false).1 = 0
  · rw [if_pos h0, if_pos rfl, if_pos h0]
  · rw [if_neg h0, if_neg h0]
/-- What is read is an instruction. -/
theorem own_ins {w : World} {B cap : Nat} {o : Option Addr} {xs : List Int} {op A B' : Int} (h : w.ownsRow B 2 1 (.slice o xs.length cap) xs.length (xs.map (Value.int .i64))) (h0 : 0 ≤ op) (h1 : op ≤ 255) (hA : -9223372036854775808 ≤ A ∧ A ≤ 9223372036854775807) : InsD.ok w ⟨op, A, B', o, xs.length, cap, xs⟩ ∧ (0 < xs.length → ∃ (g : Addr) (cur : Array Value) (f : Nat × Nat), o = some g ∧ w.heap[g.block]? = some (.cells cur 2 f)) := by
  rcases h.2 with ⟨hv, hn⟩ | ⟨g, c, cur, hv, hb, hg, hc, hm, _⟩
  · simp only [Value.slice.injEq] at hv
    obtain ⟨rfl, _, rfl⟩ := hv
    exact ⟨⟨h0, h1, hA, by simp only; omega, by unfold maxLen; simp, ⟨rfl, Or.inl hn⟩, fun _ => rfl⟩, fun h => by omega⟩
  · simp only [Value.slice.injEq] at hv
    obtain ⟨rfl, _, rfl⟩ := hv
    refine ⟨⟨h0, h1, hA, hc, hm, ⟨rfl, ?_⟩, by simp⟩, fun _ => ⟨_, cur, _, rfl, hg⟩⟩
    rcases Nat.eq_zero_or_pos xs.length with h0 | h0
    · exact Or.inl h0
    · right
      refine ⟨⟨g, 0, none⟩, rfl, (h.lt g rfl).2, fun i hi => ?_⟩
      have := h.cells (g := g) rfl i (.int .i64 (xs.getD i 0)) (by
        simp only at hi
        rw [List.getElem?_map, List.getElem?_eq_getElem hi, List.getD_eq_getElem?_getD, List.getElem?_eq_getElem hi]
        rfl)
      exact this
theorem new_at (w : World) (c : Obj) (n : Nat) (h : n = w.heap.size) : (w.alloc c).heap[n]? = some c := by
  rw [h]
  exact heap_alloc_new w c
set_option maxHeartbeats 8000000 in
set_option maxRecDepth 1000000 in
theorem rnread_core (s : ByteArray) (hs : s.size ≤ maxLen) (R : Int × List V4 × List Int) (w : World) (HR0 : Hid (appR [] (nRd 200 (nums s) []) = R))
    (HRD : Hid (∀ (a : Nat) w', Below w.heap.size w w' → Calls Tryd.prog 35 #[.string (s.extract a s.size)] w' fun r w'' => Below w'.heap.size w' w'' ∧
      ((¬ (mIns ((nums s).drop a) 0).e = 0 ∧ r = .returned (.tuple #[.agg #[.int .u8 0, .int .i64 0, .int .i64 0, .slice none 0 0], .int .i64 0, .int .i64 (mIns ((nums s).drop a) 0).e])) ∨
       ((mIns ((nums s).drop a) 0).e = 0 ∧ ∃ oT cT, r = .returned (.tuple #[.agg #[.int .u8 (mIns ((nums s).drop a) 0).op, .int .i64 (mIns ((nums s).drop a) 0).A, .int .i64 (mIns ((nums s).drop a) 0).B, .slice oT (mIns ((nums s).drop a) 0).To.length cT], .int .i64 ((((nums s).drop a).length : Int) - ((mIns ((nums s).drop a) 0).l.length : Int)), .int .i64 0]) ∧ w''.ownsRow w'.heap.size 2 1 (.slice oT (mIns ((nums s).drop a) 0).To.length cT) (mIns ((nums s).drop a) 0).To.length ((mIns ((nums s).drop a) 0).To.map (Value.int .i64))))))
    (HNC : Hid (∀ (o : Option Addr) (cap : Nat) (L : List InsD) w', Below w.heap.size w w' → LD w' o L → L.length ≤ cap → Calls Tryd.prog 19 #[.slice o L.length cap] w' fun r w'' => r = .returned (.int .i64 (nChk L)) ∧ Below w'.heap.size w' w'')) :
    Calls Tryd.prog 16 #[.string s] w fun r w' => Below w.heap.size w w' ∧ ((R.1 ≠ 0 ∧ r = .returned (.tuple #[.slice none 0 0, .int .i64 0, .int .i64 R.1])) ∨
      (R.1 = 0 ∧ ∃ (o : Option Addr) (cap : Nat) (L : List InsD), r = .returned (.tuple #[.slice o L.length cap, .int .i64 ((s.size : Int) - (R.2.2.length : Int)), .int .i64 0]) ∧ IR w' w.heap.size o L.length cap L ∧ L.map InsD.val = R.2.1)) := by
  obtain ⟨i0, hi, hz0, hz1, hz2⟩ := info_parts Tryd.infoIns
  have hm : s.size ≤ 9223372036854775807 := by unfold maxLen at hs; omega
  have hbyte : ∀ b ∈ nums s, 0 ≤ b ∧ b < 256 := nums_byte s
  have HBy : Hid (type_of% hbyte) := hbyte
  have hnl : (nums s).length = s.size := nums_length s
  have HNL : Hid (type_of% hnl) := hnl
  clear hbyte hnl
  go_enter Tryd.func16, Tryd.ntmps16
  go_wp2
  go_loopw [5, 6] (fun lst av wr => ∃ k a cap : Nat, ∃ o : Option Addr, ∃ L : List InsD, ∃ bs : List Int, lst = .slice o k cap ∧ av = .int .i64 (a : Int) ∧ k ≤ 200 ∧ a ≤ s.size ∧ bs.length ≤ 12 ∧ Hid (nRun L [] false = (0, bs, false)) ∧ Hid (IR wr w.heap.size o k cap L) ∧ Hid (appR (L.map InsD.val) (nRd (200 - k) ((nums s).drop a) bs) = R) ∧ Hid (Below w.heap.size w wr)) (fun _ av _ => s.size - (intOf av).toNat)
  case atStart => exact ⟨0, 0, 0, none, [], [], rfl, rfl, by omega, by omega, by simp, rfl, IR.nil _ _, HR0, Below.refl _ _⟩
  case round =>
    obtain ⟨k, a, cap, o, L, bs, rfl, rfl, hk, ha, hbs, HN, HI, HQ1, HB⟩ := hrel
    clear HR0
    have hPw : w.heap.size ≤ wr.heap.size := HB.out.size
    · skip
      have ha0 : (0 : Int) ≤ (a : Int) := by omega
      have ha1 : (a : Int) ≤ (s.size : Int) := by omega
      have hcl := (HI.out.capm).1
      have hcm := (HI.out.capm).2
      unfold maxLen at hcm
      go_wp2_with fail
      refine (HRD.out a _ HB.out).mono ?_
      rintro e w1 ⟨b1, h1⟩
      rcases h1 with ⟨he, rfl⟩ | ⟨he, oT, cT, rfl, hv⟩
      · have HQ2 : Hid (((mIns ((nums s).drop a) 0).e, [], []) = R) := by
          have := HQ1.out
          rw [nRd_err _ _ _ he, appR_err _ _ he] at this
          exact this
        have HB1 : Hid (Below w.heap.size w w1) := HB.out.trans (b1.mono (by omega))
        generalize (mIns ((nums s).drop a) 0).e = M at he HQ2
        have hb0 : (M == 0) = false := by rw [beq_eq_false_iff_ne]; exact he
        have hn0 : (M != 0) = true := by rw [bne, hb0]; rfl
        clear HQ1 HN HI HB b1
        go_wp2
        go_ret3
        refine ⟨HB1.out.alloc (by have := HB1.out.size; omega) _, Or.inl ?_⟩
        rw [← HQ2.out]
        exact ⟨he, rfl⟩
      · have hbyl : ∀ b ∈ (nums s).drop a, 0 ≤ b ∧ b < 256 := fun b hb => HBy.out b (List.mem_of_mem_drop hb)
        obtain ⟨⟨hop0, hop1⟩, hfit, hA, hlen⟩ := mIns_ok _ hbyl he
        have hsuf := suf_drop (mIns_suf ((nums s).drop a) 0)
        have HQ2 : Hid (k = 200 → (2, [], []) = R) := by
          intro hk2
          have := HQ1.out
          rw [hk2, Nat.sub_self, nRd_large _ _ he, appR_err _ _ (by decide)] at this
          exact this
        have HQ3 : Hid (k < 200 → appR (L.map InsD.val) (nRd (200 - k - 1 + 1) ((nums s).drop a) bs) = R) := by
          intro hk2
          have := HQ1.out
          rw [show 200 - k = 200 - k - 1 + 1 by omega] at this
          exact this
        have HQ4 : Hid (type_of% (nRd_round (200 - k - 1) ((nums s).drop a) bs he)) := nRd_round _ _ _ he
        have hTo : (mIns ((nums s).drop a) 0).To.length ≤ 1000 := by
          rcases hfit with h | h | h | h | h | h | h | h | h
          · rw [h.2.2.2]; simp
          · rw [h.2.2.2]; simp
          · rw [h.2.2.2]; simp
          · omega
          · rw [h.2.2.2]; simp
          · rw [h.2.2.2]; simp
          · rw [h.2.2.2]; simp
          · rw [h.2.2.2.2]; simp
          · rw [h.2.2]; simp
        rw [List.length_drop, HNL.out] at hlen hsuf
        have hdl : ((nums s).drop a).length = s.size - a := by rw [List.length_drop, HNL.out]
        rw [hdl]
        clear hbyl hfit HQ1 he hdl
        generalize mIns ((nums s).drop a) 0 = M at hop0 hop1 hA hlen hsuf HQ2 HQ3 HQ4 hTo hv
        obtain ⟨op, A, B, xs, lr, er⟩ := M
        simp only at hop0 hop1 hA hlen hsuf hTo hv
        have hszE : ((s.size - a : Nat) : Int) - (lr.length : Int) = ((s.size - a - lr.length : Nat) : Int) := by omega
        simp only [hszE]
        have hst : 1 ≤ s.size - a - lr.length := by omega
        have hsl : s.size - a - lr.length ≤ s.size - a := by omega
        have HLR : Hid (lr = (nums s).drop (a + (s.size - a - lr.length))) := by
          unfold Hid
          rw [List.drop_drop] at hsuf
          exact hsuf
        generalize s.size - a - lr.length = sz at hst hsl HLR
        obtain ⟨hdok, hdty⟩ := own_ins (B' := B) hv hop0 hop1 hA
        have HB1 : Hid (Below w.heap.size w w1) := HB.out.trans (b1.mono (by omega))
        have hw1 : w.heap.size ≤ w1.heap.size := Nat.le_trans hPw b1.size
        have bA : Below w1.heap.size w1 (w1.alloc (.cells #[.int .u8 op, .int .i64 A, .int .i64 B, .slice oT xs.length cT] 52)) := (Below.refl _ _).alloc (Nat.le_refl _) _
        have HI1 : Hid (IR (w1.alloc (.cells #[.int .u8 op, .int .i64 A, .int .i64 B, .slice oT xs.length cT] 52)) w.heap.size o k cap L) := (HI.out.under b1).under bA
        have HB2 : Hid (Below w.heap.size w (w1.alloc (.cells #[.int .u8 op, .int .i64 A, .int .i64 B, .slice oT xs.length cT] 52))) := HB1.out.trans (bA.mono (by omega))
        obtain ⟨d, hd⟩ : ∃ d : InsD, d = ⟨op, A, B, oT, xs.length, cT, xs⟩ := ⟨_, rfl⟩
        have HD : Hid (d.ok w1 ∧ (0 < d.n → ∃ (g : Addr) (cur : Array Value) (f : Nat × Nat), d.o = some g ∧ w1.heap[g.block]? = some (.cells cur 2 f))) := by
          rw [hd]
          exact ⟨hdok, hdty⟩
        have hXB : (w1.alloc (.cells #[.int .u8 op, .int .i64 A, .int .i64 B, .slice oT xs.length cT] 52)).heap[w1.heap.size]? = some (.cells #[.int .u8 op, .int .i64 A, .int .i64 B, .slice oT xs.length cT] 52 (0, 0)) := heap_alloc_new w1 _
        have HXB : Hid (type_of% hXB) := hXB
        have hval : (Got.mk op A B xs lr er).val = d.val := by rw [hd]; rfl
        have hchk : d.val.chk = chkD d := val_chk d (by rw [hd])
        rw [hval, hchk] at HQ4
        dsimp only at HQ4
        have HDC : Hid (d.cells = [.int .u8 op, .int .i64 A, .int .i64 B, .slice oT xs.length cT]) := by rw [hd]; rfl
        have HDN : Hid (d.n = xs.length ∧ d.o = oT) := by rw [hd]; exact ⟨rfl, rfl⟩
        have HDO : Hid (d.op = op) := by rw [hd]; rfl
        clear hd hdok hdty hval hchk hXB bA hop0 hop1 hA hTo hv HI HB b1
        generalize xs.length = nx at HDC HDN HXB HB2 HI1
        by_cases hk2 : k = 200
        · subst hk2
          go_wp2
          go_ret3
          refine ⟨HB2.out, Or.inl ?_⟩
          rw [← HQ2.out trivial]
          exact ⟨by decide, rfl⟩
        · have hkl : k < 200 := by omega
          have hkb : ((k : Int) == 200) = false := by rw [beq_eq_false_iff_ne]; omega
          have hlen2 := nStep_len (chkD d) op bs false hbs
          have hne3 := nStep_ne3 (chkD d) op bs false (chkV_ne3 _ _ _ _ _)
          have HQ5 : Hid (type_of% (HQ3.out hkl)) := HQ3.out hkl
          rw [HQ4.out] at HQ5
          have HCL : Hid (nChk (L ++ [d]) = if (nStep (chkD d) op bs false).1 = 0 then (if (nStep (chkD d) op bs false).2.2 = true then 0 else 3) else (nStep (chkD d) op bs false).1) := by
            have := nChk_app L d bs HN.out (by have := HI1.out.len; simp; omega)
            rw [HDO.out] at this
            exact this
          have HRN : Hid ((nStep (chkD d) op bs false).1 = 0 → nRun (L ++ [d]) [] false = (0, (nStep (chkD d) op bs false).2.1, (nStep (chkD d) op bs false).2.2)) := by
            intro h0
            rw [nRun_app, HN.out, if_pos rfl, nRun_one, HDO.out, if_pos h0]
          obtain ⟨⟨r0, bs2, en2⟩, hst2⟩ : ∃ m, nStep (chkD d) op bs false = m := ⟨_, rfl⟩
          rw [hst2] at HQ5 hlen2 HCL HRN hne3
          dsimp only at HQ5 hlen2 HCL HRN hne3
          have xX : XS (w1.alloc (.cells #[.int .u8 op, .int .i64 A, .int .i64 B, .slice oT nx cT] 52)) w1.heap.size (.int .u8 op) (.int .i64 A) (.int .i64 B) (.slice oT nx cT) := HXB.out
          obtain ⟨x0, x1, x2, x3⟩ := xX.cell
          have hIo := HI1.out.own.alloc (.cells #[.int .u8 op, .int .i64 A, .int .i64 B, .slice oT nx cT] 52)
          have HIO : Hid (type_of% hIo) := hIo
          clear hst2 HQ2 HQ3 HQ4 xX HN hIo
          go_wp2_with (at_builtin; refine wpList_append_lies _ rfl _ _ 22 rfl w.heap.size 52 i0 (.agg #[.int .u8 0, .int .i64 0, .int .i64 0, .slice none 0 0]) 4 48 Tryd.underlying22 hi hz0 hz1 hz2 rfl (by omega) _ k (cellsOf L) rfl HIO.out ⟨w1.heap.size + 1, 0, none⟩ 1 1 [.int .u8 op, .int .i64 A, .int .i64 B, .slice oT nx cT] rfl rfl (World.news_of_block (cs := #[.int .u8 op, .int .i64 A, .int .i64 B, .slice oT nx cT]) (t := 52) (fr := (0, 0)) (new_at (w1.alloc _) _ _ (by simp))) (by simp [Value.oneCell']) (by omega) (by unfold maxLen; omega) (by omega) (by simp; omega) (w1.heap.size + 1 + 1) (by simp) ?_)
          intro g capg w3 hown hgrow hat hlt
          have bB : Below w1.heap.size w1 ((w1.alloc (.cells #[.int .u8 op, .int .i64 A, .int .i64 B, .slice oT nx cT] 52)).alloc (.cells #[.int .u8 op, .int .i64 A, .int .i64 B, .slice oT nx cT] 52)) := ((Below.refl _ _).alloc (Nat.le_refl _) _).alloc (by simp) _
          have bC : Below (w1.alloc (.cells #[.int .u8 op, .int .i64 A, .int .i64 B, .slice oT nx cT] 52)).heap.size (w1.alloc (.cells #[.int .u8 op, .int .i64 A, .int .i64 B, .slice oT nx cT] 52)) ((w1.alloc (.cells #[.int .u8 op, .int .i64 A, .int .i64 B, .slice oT nx cT] 52)).alloc (.cells #[.int .u8 op, .int .i64 A, .int .i64 B, .slice oT nx cT] 52)) := (Below.refl _ _).alloc (Nat.le_refl _) _
          have HI3 : Hid (IR w3 w.heap.size (some ⟨g, 0, none⟩) (k + 1) capg (L ++ [d])) := by
            refine (HI1.out.under bC).app (HD.out.1.below bB) (fun h0 => ?_) (by rw [HDC.out]; exact hown) hgrow
            obtain ⟨g', cur, f, e1, e2⟩ := HD.out.2 h0
            exact ⟨g', cur, f, e1, by rw [bB.block _ (some_lt e2)]; exact e2⟩
          have HB4 : Hid (Below w.heap.size w w3) := (HB2.out.alloc (by simp; omega) _).grown hgrow (by simp; omega) (fun j hj => (HI1.out.own.lt j hj).1)
          have hcapg := HI3.out.capm.1
          have hLk : (L ++ [d]).length = k + 1 := HI3.out.len
          have HNC1 := HNC.out (some ⟨g, 0, none⟩) capg (L ++ [d]) w3 HB4.out HI3.out.LD (by omega)
          rw [hLk, HCL.out] at HNC1
          have HNC2 : Hid (type_of% HNC1) := HNC1
          clear hown hgrow hat hlt bB bC HI1 HB2 HD x0 x1 x2 x3 HIO HXB HNC1
          have hszm : (a : Int) + (sz : Int) ≤ 9223372036854775807 := by omega
          by_cases hr0 : r0 = 0
          · subst hr0
            rw [if_pos rfl] at HNC2
            cases en2 with
            | true =>
              rw [if_pos rfl] at HNC2
              have HQ6 : Hid ((0, (L ++ [d]).map InsD.val, (nums s).drop (a + sz)) = R) := by
                have h5 := HQ5.out
                rw [if_pos rfl, if_pos rfl] at h5
                rw [← HLR.out, List.map_append, ← h5]
                rfl
              clear HQ5 HRN
              go_wp2_with fail
              refine HNC2.out.mono ?_
              rintro r w4 ⟨rfl, b4⟩
              go_wp2
              go_ret3
              have hB5 := HB4.out.trans (b4.mono HB4.out.size)
              have hQ := HQ6.out
              subst hQ
              refine ⟨hB5, Or.inr ⟨rfl, some ⟨g, 0, none⟩, capg, L ++ [d], ?_, ?_, rfl⟩⟩
              · rw [hLk, List.length_drop, HNL.out]
                rw [show (s.size : Int) - ((s.size - (a + sz) : Nat) : Int) = (a : Int) + (sz : Int) by omega]
                rfl
              · rw [hLk]
                exact HI3.out.under b4
            | false =>
              rw [if_neg (by decide)] at HNC2
              have HQ6 : Hid (appR ((L ++ [d]).map InsD.val) (nRd (200 - (k + 1)) ((nums s).drop (a + sz)) bs2) = R) := by
                have h5 := HQ5.out
                rw [if_pos rfl, if_neg (by decide), appR_app] at h5
                rw [List.map_append, ← HLR.out, show 200 - (k + 1) = 200 - k - 1 by omega]
                exact h5
              have HN2 : Hid (nRun (L ++ [d]) [] false = (0, bs2, false)) := HRN.out rfl
              clear HQ5 HRN
              go_wp2_with fail
              refine HNC2.out.mono ?_
              rintro r w4 ⟨rfl, b4⟩
              have HI4 : Hid (IR w4 w.heap.size (some ⟨g, 0, none⟩) (k + 1) capg (L ++ [d])) := HI3.out.under b4
              have HB5 : Hid (Below w.heap.size w w4) := HB4.out.trans (b4.mono HB4.out.size)
              clear b4 HI3 HB4 HNC2
              go_wp2
              go_roundw
              case rel => exact ⟨k + 1, a + sz, capg, _, L ++ [d], bs2, rfl, by go_num, by omega, by omega, hlen2, HN2, HI4, HQ6, HB5⟩
              case measure => simp [intOf]; omega
          · have hb0 : (r0 == 0) = false := by rw [beq_eq_false_iff_ne]; exact hr0
            have hb3 : (r0 == 3) = false := by rw [beq_eq_false_iff_ne]; exact hne3
            rw [if_neg hr0] at HNC2
            have HQ6 : Hid ((r0, [], []) = R) := by
              have h5 := HQ5.out
              rw [if_neg hr0, appR_err _ _ hr0] at h5
              exact h5
            clear HQ5 HRN
            go_wp2_with fail
            refine HNC2.out.mono ?_
            rintro r w4 ⟨rfl, b4⟩
            go_wp2
            go_ret3
            refine ⟨HB4.out.trans (b4.mono HB4.out.size), Or.inl ?_⟩
            rw [← HQ6.out]
            exact ⟨hr0, rfl⟩
/-- The document's own NestRead. -/
theorem rnread_any (s : ByteArray) (hs : s.size ≤ maxLen) (w : World) (hM : MaxIn w) :
    Calls Tryd.prog 16 #[.string s] w fun r w' => Below w.heap.size w w' ∧ (((nRd 200 (nums s) []).1 ≠ 0 ∧ r = .returned (.tuple #[.slice none 0 0, .int .i64 0, .int .i64 (nRd 200 (nums s) []).1])) ∨
      ((nRd 200 (nums s) []).1 = 0 ∧ ∃ (o : Option Addr) (cap : Nat) (L : List InsD), r = .returned (.tuple #[.slice o L.length cap, .int .i64 ((s.size : Int) - ((nRd 200 (nums s) []).2.2.length : Int)), .int .i64 0]) ∧ IR w' w.heap.size o L.length cap L ∧ L.map InsD.val = (nRd 200 (nums s) []).2.1)) := by
  refine rnread_core s hs _ w (appR_nil _ (nRd_form _ _ _)) (fun a w' b => ?_) (fun o cap L w' b hl hc => rncheck_any o cap L w' hl hc (hM.below b))
  have := rread_any (s.extract a s.size) (size_tail s a hs) w' (hM.below b)
  rw [nums_tail, ← nums_length (s.extract a s.size), nums_tail] at this
  exact this

end Go.Proofs.YtmbficofcmfmlaaDoor
