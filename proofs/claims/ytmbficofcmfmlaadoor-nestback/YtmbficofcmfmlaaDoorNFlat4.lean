/-
  What the program's own nest.flatAll does.
-/
import Derived.Test.YtmbficofcmfmlaaDoorNFlat3
namespace Go.Proofs.YtmbficofcmfmlaaDoor
open Go.RowKit

/-- What is asked of flatAll, for lists of parts that are no longer than so. -/
def FlatTo (m : Nat) : Prop := ∀ (F : Nat → Prop) (B k cap : Nat) (o : Option Addr) (M : List InsD) (po : Option Addr) (pk pcap : Nat) (cs : List Value) (L : List V4) (dp sz : Nat) (w : World), L.length ≤ m → k + L.length ≤ 800 → RowP w F po pk pcap cs → PL w F cs L dp sz → IR w B o k cap M → B ≤ w.heap.size →
  Calls Tryd.prog 40 #[.slice o k cap, .slice po pk pcap] w fun r w' => LP B w (M.map InsD.val ++ L) r w'
set_option maxHeartbeats 8000000 in
set_option maxRecDepth 1000000 in
theorem flatAll_core (F : Nat → Prop) (B k cap : Nat) (o : Option Addr) (M : List InsD) (po : Option Addr) (pk pcap : Nat) (cs : List Value) (L : List V4) (dp sz : Nat) (w : World) (hkL : k + L.length ≤ 800) (hr : RowP w F po pk pcap cs) (hp : PL w F cs L dp sz) (h : IR w B o k cap M) (hB : B ≤ w.heap.size)
    (HI : Hid (∀ m, m < L.length → FlatTo m)) :
    Calls Tryd.prog 40 #[.slice o k cap, .slice po pk pcap] w fun r w' => LP B w (M.map InsD.val ++ L) r w' := by
  have HR : Hid (RowP w F po pk pcap cs) := hr
  have hcap := hr.2.1
  have hcm := hr.2.2.1
  unfold maxLen at hcm
  have HCL : Hid (cs.length = pk) := hr.1
  obtain ⟨V, hV⟩ : ∃ V, M.map InsD.val ++ L = V := ⟨_, rfl⟩
  have HP0 : Hid (∃ Lr dr sr, PL w F (cs.drop 0) Lr dr sr ∧ k + Lr.length ≤ 800 ∧ Lr.length ≤ L.length ∧ M.map InsD.val ++ Lr = V) := ⟨L, dp, sz, by rw [List.drop_zero]; exact hp, hkL, Nat.le_refl _, hV⟩
  have HI0 : Hid (IR w B o k cap M) := h
  have hk2 : pk ≤ 800 := by have := hp.sizes; have := hr.1; omega
  rw [hV]
  clear hr hp h hV
  go_enter Tryd.func40, Tryd.ntmps40
  go_wp2
  go_loopw [0, 9] (fun lv i wr => ∃ j k cap : Nat, ∃ o : Option Addr, ∃ M : List InsD, lv = .slice o k cap ∧ i = .int .i64 j ∧ j ≤ pk ∧ Hid (IR wr B o k cap M) ∧ Hid (∃ Lr dr sr, PL wr F (cs.drop j) Lr dr sr ∧ k + Lr.length ≤ 800 ∧ Lr.length ≤ L.length ∧ M.map InsD.val ++ Lr = V) ∧ Hid (FK w wr) ∧ Hid (Below B w wr)) (fun _ i _ => pk - (intOf i).toNat)
  case atStart => exact ⟨0, k, cap, o, M, rfl, rfl, by omega, HI0, HP0, FK.refl _, Below.refl _ _⟩
  case round =>
    obtain ⟨j, k', cap', o', M', rfl, rfl, hj, HIR, HP, HF, HB⟩ := hrel
    clear HP0 HI0
    obtain ⟨Lr, dr, sr, hpl, hkr, hlr, hrel⟩ := HP.out
    have hBw : B ≤ wr.heap.size := Nat.le_trans hB HF.out.size
    by_cases hlt : j < pk
    · have hjc : j < cs.length := by rw [HCL.out]; exact hlt
      have hRw := HR.out.fk HF.out
      rcases hRw.2.2.2 with h0 | ⟨g, rfl, _, _, hi⟩
      · omega
      have hcell : wr.cell? ⟨g, j, none⟩ = some cs[j] := by
        rw [hi j hlt, List.getElem?_eq_getElem hjc]
      have hdr : cs.drop j = cs[j] :: cs.drop (j + 1) := List.drop_eq_getElem_cons hjc
      rw [hdr] at hpl
      clear hdr
      generalize cs[j] = c at hcell hpl
      have hki0 : (0 : Int) ≤ (j : Int) := by omega
      have hki1 : (j : Int) < (pk : Int) := by omega
      have hMl := HIR.out.len
      clear hi HP hjc hRw
      rcases hpl.inv with ⟨d, L', rfl, hok, hn, r, rfl⟩ | ⟨d, o1, k1, cap1, ci, LI, di, si, L', dp', sz', rfl, hok, hn, hr1, ri, r, rfl, rfl, rfl⟩ | ⟨d, o1, k1, cap1, ci, LI, di, si, els, o2, k2, cap2, c2, L2, d2, s2, L', dp', sz', rfl, hok, hn, hr1, ri, hr2, ri2, he, r, rfl, rfl, rfl⟩
      · have HC : Hid (Calls Tryd.prog 165 #[.agg #[.int .u8 d.op, .int .i64 d.A, .int .i64 d.B, .slice d.o d.n d.cap], .slice o' k' cap'] wr fun r w' => LP B wr (M'.map InsD.val ++ [d.val]) r w') := single_any B k' cap' o' M' d wr HIR.out (by simp at hkr; omega) hBw hok hn
        have HP2 : Hid (∀ (w' : World) (k'' : Nat) (M'' : List InsD), FK wr w' → M''.map InsD.val = M'.map InsD.val ++ [d.val] → M''.length = k'' → ∃ Lr dr sr, PL w' F (cs.drop (j + 1)) Lr dr sr ∧ k'' + Lr.length ≤ 800 ∧ Lr.length ≤ L.length ∧ M''.map InsD.val ++ Lr = V) := fun w' k'' M'' hf hm hl => by
          have hl2 := congrArg List.length hm
          simp at hl2 hkr hlr
          exact ⟨L', _, _, r.fk hf, by omega, by omega, by rw [hm, ← hrel]; simp⟩
        clear r hpl hlr hrel hkr hok HIR
        go_wp2_with fail
        refine HC.out.mono ?_
        rintro r w2 ⟨o3, k3, cap3, M3, rfl, hI3, hM3, hF3, hB3⟩
        have HI3 : Hid (type_of% hI3) := hI3
        have HP3 : Hid (∃ Lr dr sr, PL w2 F (cs.drop (j + 1)) Lr dr sr ∧ k3 + Lr.length ≤ 800 ∧ Lr.length ≤ L.length ∧ M3.map InsD.val ++ Lr = V) := HP2.out w2 k3 M3 hF3 hM3 hI3.len
        have HF3 : Hid (FK w w2) := HF.out.trans hF3
        have HB3 : Hid (Below B w w2) := HB.out.trans hB3
        clear hI3 hM3 hF3 hB3 HC HP2 HF HB hcell
        go_wp2
        go_roundw
        case rel => exact ⟨j + 1, k3, cap3, o3, M3, rfl, by go_num, by omega, HI3, HP3, HF3, HB3⟩
        case measure => simp [intOf]; omega
      · have hmem : ∀ w' (o' : Option Addr) (k'' cap' : Nat) (M'' : List InsD), FK wr w' → Below B wr w' → IR w' B o' k'' cap' M'' → k'' = k' + 1 → Calls Tryd.prog 40 #[.slice o' k'' cap', .slice o1 k1 cap1] w' fun r w'' => LP B w' (M''.map InsD.val ++ LI) r w'' := fun w' o' k'' cap' M'' hf hb hir hk => HI.out LI.length (by simp at hlr; omega) F B k'' cap' o' M'' o1 k1 cap1 ci LI di si w' (Nat.le_refl _) (by simp at hkr; omega) (hr1.fk hf) (ri.fk hf) hir (Nat.le_trans hBw hf.size)
        have HC : Hid (Calls Tryd.prog 162 #[.agg #[.int .u8 d.op, .int .i64 d.A, .int .i64 d.B, .slice d.o d.n d.cap, .slice o1 k1 cap1], .slice o' k' cap'] wr fun r w' => LP B wr (M'.map InsD.val ++ d.val :: (LI ++ [endV])) r w') :=
          block_core B k' cap' o' M' d o1 k1 cap1 LI wr (by simp at hkr; omega) hBw hMl fun w' b => front_core B k' cap' o' M' d o1 k1 cap1 LI w' (HIR.out.under b) (by simp at hkr; omega) (Nat.le_trans hBw b.size) (hok.fk (FK.of_below b)) hn fun o'' cap'' M'' w'' hf hb hir => hmem w'' o'' _ cap'' M'' ((FK.of_below b).trans hf) ((b.mono hBw).trans hb) hir rfl
        have HP2 : Hid (∀ (w' : World) (k'' : Nat) (M'' : List InsD), FK wr w' → M''.map InsD.val = M'.map InsD.val ++ d.val :: (LI ++ [endV]) → M''.length = k'' → ∃ Lr dr sr, PL w' F (cs.drop (j + 1)) Lr dr sr ∧ k'' + Lr.length ≤ 800 ∧ Lr.length ≤ L.length ∧ M''.map InsD.val ++ Lr = V) := fun w' k'' M'' hf hm hl => by
          have hl2 := congrArg List.length hm
          simp at hl2 hkr hlr
          exact ⟨L', _, _, r.fk hf, by omega, by omega, by rw [hm, ← hrel]; simp⟩
        clear r hpl hlr hrel hkr hok HIR hmem ri hr1
        go_wp2_with fail
        refine HC.out.mono ?_
        rintro r w2 ⟨o3, k3, cap3, M3, rfl, hI3, hM3, hF3, hB3⟩
        have HI3 : Hid (type_of% hI3) := hI3
        have HP3 : Hid (∃ Lr dr sr, PL w2 F (cs.drop (j + 1)) Lr dr sr ∧ k3 + Lr.length ≤ 800 ∧ Lr.length ≤ L.length ∧ M3.map InsD.val ++ Lr = V) := HP2.out w2 k3 M3 hF3 hM3 hI3.len
        have HF3 : Hid (FK w w2) := HF.out.trans hF3
        have HB3 : Hid (Below B w w2) := HB.out.trans hB3
        clear hI3 hM3 hF3 hB3 HC HP2 HF HB hcell
        go_wp2
        go_roundw
        case rel => exact ⟨j + 1, k3, cap3, o3, M3, rfl, by go_num, by omega, HI3, HP3, HF3, HB3⟩
        case measure => simp [intOf]; omega
      · have hmem : ∀ w' (o' : Option Addr) (k'' cap' : Nat) (M'' : List InsD), FK wr w' → Below B wr w' → IR w' B o' k'' cap' M'' → k'' = k' + 1 → Calls Tryd.prog 40 #[.slice o' k'' cap', .slice o1 k1 cap1] w' fun r w'' => LP B w' (M''.map InsD.val ++ LI) r w'' := fun w' o' k'' cap' M'' hf hb hir hk => HI.out LI.length (by simp at hlr; omega) F B k'' cap' o' M'' o1 k1 cap1 ci LI di si w' (Nat.le_refl _) (by simp at hkr; omega) (hr1.fk hf) (ri.fk hf) hir (Nat.le_trans hBw hf.size)
        have hfr : ∀ w', Below wr.heap.size wr w' → Calls Tryd.prog 163 #[.agg #[.int .u8 d.op, .int .i64 d.A, .int .i64 d.B, .slice d.o d.n d.cap, .slice o1 k1 cap1], .slice o' k' cap'] w' fun r w'' => LP B w' (M'.map InsD.val ++ d.val :: LI) r w'' := fun w' b => front_core B k' cap' o' M' d o1 k1 cap1 LI w' (HIR.out.under b) (by simp at hkr; omega) (Nat.le_trans hBw b.size) (hok.fk (FK.of_below b)) hn fun o'' cap'' M'' w'' hf hb hir => hmem w'' o'' _ cap'' M'' ((FK.of_below b).trans hf) ((b.mono hBw).trans hb) hir rfl
        have hln := els_len ri2 he
        have HC : Hid (Calls Tryd.prog 164 #[.agg #[.int .u8 d.op, .int .i64 d.A, .int .i64 d.B, .slice d.o d.n d.cap, .slice o1 k1 cap1, .bool els, .slice o2 k2 cap2], .slice o' k' cap'] wr fun r w' => LP B wr (M'.map InsD.val ++ d.val :: (LI ++ ((if els = true then elseV :: L2 else []) ++ [endV]))) r w') := by
          cases els with
          | false => exact choice_core0 B k' cap' o' M' d o1 k1 cap1 LI o2 k2 cap2 wr (by simp at hkr; omega) hBw hMl hfr
          | true => exact choice_core1 B k' cap' o' M' d o1 k1 cap1 LI o2 k2 cap2 L2 wr (by simp at hkr; omega) hBw hMl hfr fun o'' k'' cap'' M'' w' hf hb hir hk => HI.out L2.length (by simp at hlr; omega) F B k'' cap'' o'' M'' o2 k2 cap2 c2 L2 d2 s2 w' (Nat.le_refl _) (by simp at hkr; omega) (hr2.fk hf) (ri2.fk hf) hir (Nat.le_trans hBw hf.size)
        have HP2 : Hid (∀ (w' : World) (k'' : Nat) (M'' : List InsD), FK wr w' → M''.map InsD.val = M'.map InsD.val ++ d.val :: (LI ++ ((if els = true then elseV :: L2 else []) ++ [endV])) → M''.length = k'' → ∃ Lr dr sr, PL w' F (cs.drop (j + 1)) Lr dr sr ∧ k'' + Lr.length ≤ 800 ∧ Lr.length ≤ L.length ∧ M''.map InsD.val ++ Lr = V) := fun w' k'' M'' hf hm hl => by
          have hl2 := congrArg List.length hm
          simp only [List.length_append, List.length_cons, List.length_map, List.length_nil] at hl2 hkr hlr
          exact ⟨L', _, _, r.fk hf, by omega, by omega, by rw [hm, ← hrel]; simp⟩
        clear r hpl hlr hrel hkr hok HIR hmem ri hr1 ri2 hr2 he hfr hln
        go_wp2_with fail
        refine HC.out.mono ?_
        rintro r w2 ⟨o3, k3, cap3, M3, rfl, hI3, hM3, hF3, hB3⟩
        have HI3 : Hid (type_of% hI3) := hI3
        have HP3 : Hid (∃ Lr dr sr, PL w2 F (cs.drop (j + 1)) Lr dr sr ∧ k3 + Lr.length ≤ 800 ∧ Lr.length ≤ L.length ∧ M3.map InsD.val ++ Lr = V) := HP2.out w2 k3 M3 hF3 hM3 hI3.len
        have HF3 : Hid (FK w w2) := HF.out.trans hF3
        have HB3 : Hid (Below B w w2) := HB.out.trans hB3
        clear hI3 hM3 hF3 hB3 HC HP2 HF HB hcell
        go_wp2
        go_roundw
        case rel => exact ⟨j + 1, k3, cap3, o3, M3, rfl, by go_num, by omega, HI3, HP3, HF3, HB3⟩
        case measure => simp [intOf]; omega
    · have hd : cs.drop j = [] := List.drop_eq_nil_of_le (by rw [HCL.out]; omega)
      rw [hd] at hpl
      obtain ⟨rfl, rfl, rfl⟩ := hpl.inv_nil
      rw [List.append_nil] at hrel
      have HV : Hid (type_of% hrel) := hrel
      clear hrel hpl hd HP
      go_wp2
      go_ret
      exact ⟨o', k', cap', M', rfl, HIR.out, HV.out, HF.out, HB.out⟩
/-- The program's own flatAll. -/
theorem flatAll_any : ∀ m, FlatTo m
  | 0 => fun F B k cap o M po pk pcap cs L dp sz w hm hkL hr hp h hB => flatAll_core F B k cap o M po pk pcap cs L dp sz w hkL hr hp h hB fun m' hm' => by omega
  | m + 1 => fun F B k cap o M po pk pcap cs L dp sz w hm hkL hr hp h hB => flatAll_core F B k cap o M po pk pcap cs L dp sz w hkL hr hp h hB fun m' hm' => fun F B k cap o M po pk pcap cs L dp sz w hm2 hkL hr hp h hB => flatAll_any m F B k cap o M po pk pcap cs L dp sz w (by omega) hkL hr hp h hB

end Go.Proofs.YtmbficofcmfmlaaDoor
