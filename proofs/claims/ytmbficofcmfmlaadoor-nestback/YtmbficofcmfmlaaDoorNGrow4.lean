/-
  What the program's own partAt does with an if, and between.
-/
import Derived.Test.YtmbficofcmfmlaaDoorNGrow3
namespace Go.Proofs.YtmbficofcmfmlaaDoor
open Go.RowKit

set_option maxHeartbeats 8000000 in
set_option maxRecDepth 1000000 in
theorem part_choice (b f cap gE gS n a : Nat) (d : InsD) (els : Bool) (V1 : List V4) (d1 s1 : Nat) (V2 : List V4) (d2 s2 : Nat) (w : World) (hbw : b < w.heap.size) (ha : a < n) (_hn : n ≤ 200) (hok : d.ok w) (hfew : d.n ≤ 16) (o4 : d.op = 4) (hc : w.cell? ⟨b, f + a * 4, none⟩ = some (.int .u8 d.op) ∧ w.cell? ⟨b, f + a * 4 + 1, none⟩ = some (.int .i64 d.A) ∧ w.cell? ⟨b, f + a * 4 + 2, none⟩ = some (.int .i64 d.B) ∧ w.cell? ⟨b, f + a * 4 + 3, none⟩ = some (.slice d.o d.n d.cap))
    (HCA : Hid (∀ (d' : InsD) w', OkT w' d' → Below w.heap.size w w' → Calls Tryd.prog 87 #[.agg #[.slice (some ⟨b, f, none⟩) n cap, .slice (some ⟨gE, 0, none⟩) n n, .slice (some ⟨gS, 0, none⟩) n n], .int .i64 a, .agg #[.int .u8 d'.op, .int .i64 d'.A, .int .i64 d'.B, .slice d'.o d'.n d'.cap]] w' fun r w'' => CP w' d' els V1 d1 s1 V2 d2 s2 r w'')) :
    Calls Tryd.prog 65 #[.agg #[.slice (some ⟨b, f, none⟩) n cap, .slice (some ⟨gE, 0, none⟩) n n, .slice (some ⟨gS, 0, none⟩) n n], .int .i64 a] w fun r w' => PP w (d.val :: (V1 ++ ((if els = true then elseV :: V2 else []) ++ [endV]))) (max (1 + d1) (1 + d2)) (1 + s1 + s2) r w' := by
  obtain ⟨m0, m1, m2, m3⟩ := hc
  have HCP := fun w' (bb : Below w.heap.size w w') => copied_any d hfew w' (hok.below bb)
  have HCQ : Hid (type_of% HCP) := HCP
  have hai0 : (0 : Int) ≤ (a : Int) := by omega
  have hai1 : (a : Int) < (n : Int) := by omega
  have HGB : Hid ((w.alloc (.cells #[.slice (some ⟨b, f, none⟩) n cap, .slice (some ⟨gE, 0, none⟩) n n, .slice (some ⟨gS, 0, none⟩) n n] 76)).heap[w.heap.size]? = some (.cells #[.slice (some ⟨b, f, none⟩) n cap, .slice (some ⟨gE, 0, none⟩) n n, .slice (some ⟨gS, 0, none⟩) n n] 76 (0, 0))) := heap_alloc_new w _
  have HO4 : Hid (d.op = 4) := o4
  obtain ⟨VV, hVV⟩ : ∃ VV, (if els = true then elseV :: V2 else []) = VV := ⟨_, rfl⟩
  rw [hVV]
  have HVE : Hid (type_of% hVV) := hVV
  clear hVV
  clear hok HCP o4
  go_enter Tryd.func65, Tryd.ntmps65
  go_wp2_with fail
  refine (HCQ.out _ ((Below.refl _ _).alloc (Nat.le_refl _) _)).mono ?_
  rintro r w2 ⟨d', rfl, hval, hnn, hok, b2⟩
  have hop : d'.op = d.op := by have := congrArg V4.op hval; exact this
  have e2 : (d'.op == 2) = false := by rw [beq_eq_false_iff_ne, hop, HO4.out]; decide
  have e3 : (d'.op == 3) = false := by rw [beq_eq_false_iff_ne, hop, HO4.out]; decide
  have e4 : (d'.op == 4) = true := by rw [beq_iff_eq, hop]; exact HO4.out
  have b02 : Below w.heap.size w w2 := ((Below.refl _ _).alloc (Nat.le_refl _) _).trans (b2.mono (by simp))
  have HB2 : Hid (type_of% b02) := b02
  have HOK : Hid (OkT w2 d' ∧ d'.n ≤ 16 ∧ d'.val = d.val) := ⟨hok, by rw [hnn]; exact hfew, hval⟩
  have hs2 := b02.size
  have x2 : (w2.alloc (.cells #[.int .u8 d'.op, .int .i64 d'.A, .int .i64 d'.B, .slice d'.o d'.n d'.cap] 52)).heap[w.heap.size]? = some (.cells #[.slice (some ⟨b, f, none⟩) n cap, .slice (some ⟨gE, 0, none⟩) n n, .slice (some ⟨gS, 0, none⟩) n n] 76 (0, 0)) := by
    have hb := (b2.block _ (some_lt HGB.out)).trans HGB.out
    rw [Below.heap_alloc _ _ _ (some_lt hb)]
    exact hb
  obtain ⟨y0, y1, y2⟩ := agg3 x2
  have bA : Below w2.heap.size w2 (w2.alloc (.cells #[.int .u8 d'.op, .int .i64 d'.A, .int .i64 d'.B, .slice d'.o d'.n d'.cap] 52)) := (Below.refl _ _).alloc (Nat.le_refl _) _
  have HBA : Hid (Below w.heap.size w (w2.alloc (.cells #[.int .u8 d'.op, .int .i64 d'.A, .int .i64 d'.B, .slice d'.o d'.n d'.cap] 52))) := b02.trans (bA.mono hs2)
  have HCB := HCA.out d' _ (HOK.out.1.under bA) HBA.out
  have HCC : Hid (type_of% HCB) := HCB
  clear b2 b02 hok hval hnn hop HGB bA HCQ HCB x2 HCA
  go_wp2_with fail
  refine HCC.out.mono ?_
  rintro r w3 ⟨o1, k1, cap1, c1, o5, k5, cap5, c5, rfl, hr1, hp1, hr2, hp2, hel, hok3, hb3⟩
  have HEL : Hid (els = false → c5 = []) := hel
  clear hel
  go_wp2
  go_ret
  have hsA := HBA.out.size
  refine ⟨112, .agg #[.int .u8 d'.op, .int .i64 d'.A, .int .i64 d'.B, .slice d'.o d'.n d'.cap, .slice o1 k1 cap1, .bool els, .slice o5 k5 cap5], rfl, ?_, HBA.out.trans (hb3.mono hsA)⟩
  have hkr : ∀ g, New (w2.alloc (.cells #[.int .u8 d'.op, .int .i64 d'.A, .int .i64 d'.B, .slice d'.o d'.n d'.cap] 52)) w3 g → g < w3.heap.size → New w w3 g ∧ w3.heap[g]? = w3.heap[g]? := fun g hg _ => ⟨⟨Nat.le_trans hsA hg.1, hg.2⟩, rfl⟩
  have hq := PL.choice d' hok3 HOK.out.2.1 o1 k1 cap1 c1 V1 d1 s1 (hr1.keep hkr) (hp1.new hsA) els o5 k5 cap5 c5 V2 d2 s2 (hr2.keep hkr) (hp2.new hsA) HEL.out [] [] 0 0 PL.nil
  rw [Nat.add_zero, show max (max (1 + d1) (1 + d2)) 0 = max (1 + d1) (1 + d2) by omega, HOK.out.2.2, HVE.out] at hq
  exact hq
/-- The values of the instructions from place i on up to j. -/
def segV (L : List InsD) (i j : Nat) : List V4 := ((L.drop i).take (j - i)).map InsD.val
theorem segV_nil (L : List InsD) (i : Nat) : segV L i i = [] := by
  unfold segV
  simp
theorem segV_cat (L : List InsD) (i a j : Nat) (h1 : i ≤ a) (h2 : a ≤ j) : segV L i a ++ segV L a j = segV L i j := by
  unfold segV
  rw [← List.map_append]
  congr 1
  have e : L.drop a = (L.drop i).drop (a - i) := by rw [List.drop_drop]; congr 1; omega
  rw [e, show j - i = (a - i) + (j - a) by omega, List.take_add]
theorem segV_one (L : List InsD) (a : Nat) (h : a < L.length) : segV L a (a + 1) = [(L[a]).val] := by
  unfold segV
  rw [List.drop_eq_getElem_cons h, show a + 1 - a = 1 by omega]
  rfl
theorem PL.snoc {w : World} {F : Nat → Prop} {c : Value} {X : List V4} {d1 s1 : Nat} (h1 : PL w F [c] X d1 s1) {cs : List Value} {V0 : List V4} {d0 s0 : Nat} (h : PL w F cs V0 d0 s0) : PL w F (cs ++ [c]) (V0 ++ X) (max d0 d1) (s0 + s1) := by
  induction h with
  | nil => rw [List.nil_append, List.nil_append, Nat.zero_add, show max 0 d1 = d1 by omega]; exact h1
  | single d h hn cs L dp sz r ih => exact PL.single d h hn _ _ _ _ ih
  | block d h hn o k cap ci LI di si hr ri cs L dp sz r ihi ih =>
    have := PL.block d h hn o k cap ci LI di si hr ri _ _ _ _ ih
    rw [← Nat.max_assoc, ← Nat.add_assoc] at this
    simpa using this
  | choice d h hn o k cap ci LI di si hr ri els o2 k2 cap2 c2 L2 d2 s2 hr2 ri2 he cs L dp sz r ihi ihj ih =>
    have := PL.choice d h hn o k cap ci LI di si hr ri els o2 k2 cap2 c2 L2 d2 s2 hr2 ri2 he _ _ _ _ ih
    rw [← Nat.max_assoc, ← Nat.add_assoc] at this
    simpa using this
theorem Tryd.infoPart : (Tryd.prog.info? 107).map (fun i => (i.zero, i.size, i.bytes)) = some (some .nilIface, 1, 16) := by kernel_rfl
/-- The blocks that were made meanwhile, but for a row's own. -/
def Far (w w' : World) (v : Value) (g : Nat) : Prop := w.heap.size ≤ g ∧ g < w'.heap.size ∧ some g ≠ v.ownBlock
set_option maxHeartbeats 8000000 in
set_option maxRecDepth 1000000 in
theorem between_core (b f cap gE gS n i j : Nat) (x y : Int) (L : List InsD) (E S : List Int) (D Z : Nat) (w : World) (hx : x = (i : Int)) (hy : y = (j : Int)) (hG : GR w b f gE gS L E S) (HL : Hid (L.length = n)) (hn : n ≤ 200) (hseg : Seg L E S i j D Z)
    (HPA : Hid (∀ a d s, Seg L E S a j d s → a < j → i ≤ a → ∃ a' V d1 s1 d2 s2, a < a' ∧ a' ≤ j ∧ Seg L E S a' j d2 s2 ∧ d = max d1 d2 ∧ s = s1 + s2 ∧ V = segV L a a' ∧ ((E.getD a 0 = -1 ∧ a' = a + 1) ∨ (E.getD a 0 = ((a' - 1 : Nat) : Int) ∧ 0 < a')) ∧ ∀ w', Below w.heap.size w w' → Calls Tryd.prog 65 #[.agg #[.slice (some ⟨b, f, none⟩) n cap, .slice (some ⟨gE, 0, none⟩) n n, .slice (some ⟨gS, 0, none⟩) n n], .int .i64 a] w' fun r w'' => PP w' V d1 s1 r w'')) :
    Calls Tryd.prog 38 #[.agg #[.slice (some ⟨b, f, none⟩) n cap, .slice (some ⟨gE, 0, none⟩) n n, .slice (some ⟨gS, 0, none⟩) n n], .int .i64 x, .int .i64 y] w fun r w' => BP w (segV L i j) D Z r w' := by
  subst hx hy
  obtain ⟨i0, hi, hz0, hz1, hz2⟩ := info_parts Tryd.infoPart
  obtain ⟨hij, hjn⟩ := hseg.le
  rw [HL.out] at hjn
  have HG : Hid (GR w b f gE gS L E S) := hG
  obtain ⟨V, hV⟩ : ∃ V, segV L i j = V := ⟨_, rfl⟩
  rw [hV]
  have bX : Below w.heap.size w (w.alloc (.cells #[.slice (some ⟨b, f, none⟩) n cap, .slice (some ⟨gE, 0, none⟩) n n, .slice (some ⟨gS, 0, none⟩) n n] 76)) := (Below.refl _ _).alloc (Nat.le_refl _) _
  have HB0 : Hid (type_of% bX) := bX
  have HX0 : Hid ((w.alloc (.cells #[.slice (some ⟨b, f, none⟩) n cap, .slice (some ⟨gE, 0, none⟩) n n, .slice (some ⟨gS, 0, none⟩) n n] 76)).heap[w.heap.size]? = some (.cells #[.slice (some ⟨b, f, none⟩) n cap, .slice (some ⟨gE, 0, none⟩) n n, .slice (some ⟨gS, 0, none⟩) n n] 76 (0, 0))) := heap_alloc_new w _
  have HP0 : Hid (∃ V0 d0 s0 d s, PL (w.alloc (.cells #[.slice (some ⟨b, f, none⟩) n cap, .slice (some ⟨gE, 0, none⟩) n n, .slice (some ⟨gS, 0, none⟩) n n] 76)) (Far w (w.alloc (.cells #[.slice (some ⟨b, f, none⟩) n cap, .slice (some ⟨gE, 0, none⟩) n n, .slice (some ⟨gS, 0, none⟩) n n] 76)) (.slice none 0 0)) [] V0 d0 s0 ∧ Seg L E S i j d s ∧ V0 ++ segV L i j = V ∧ max d0 d = D ∧ s0 + s = Z) := ⟨[], 0, 0, D, Z, PL.nil, hseg, by rw [List.nil_append, hV], by omega, by omega⟩
  clear hG hseg hV bX
  go_enter Tryd.func38, Tryd.ntmps38
  go_wp2
  go_loopw [7, 8] (fun pv av wr => ∃ a k cp : Nat, ∃ o : Option Addr, ∃ cs : List Value, pv = .slice o k cp ∧ av = .int .i64 a ∧ i ≤ a ∧ a ≤ j ∧ k ≤ a ∧ Hid (wr.ownsRow w.heap.size 107 1 (.slice o k cp) k cs) ∧ Hid (∃ V0 d0 s0 d s, PL wr (Far w wr (.slice o k cp)) cs V0 d0 s0 ∧ Seg L E S a j d s ∧ V0 ++ segV L a j = V ∧ max d0 d = D ∧ s0 + s = Z) ∧ Hid (wr.heap[w.heap.size]? = some (.cells #[.slice (some ⟨b, f, none⟩) n cap, .slice (some ⟨gE, 0, none⟩) n n, .slice (some ⟨gS, 0, none⟩) n n] 76 (0, 0))) ∧ Hid (Below w.heap.size w wr)) (fun _ av _ => j - (intOf av).toNat)
  case atStart => exact ⟨i, 0, 0, none, [], rfl, rfl, by omega, hij, by omega, World.ownsRow_nil _ _ _ _, HP0, HX0, HB0⟩
  case round =>
    obtain ⟨a, k, cp, o, cs, rfl, rfl, hia, haj, hka, HO, HP, HX, HB⟩ := hrel
    clear HP0 HX0 HB0
    obtain ⟨y0, y1, y2⟩ := agg3 HX.out
    obtain ⟨hcp, hcpm⟩ := own_cap HO.out
    obtain ⟨V0, d0, s0, d, s, hpl, hsg, hVV, hD, hZ⟩ := HP.out
    have hsw := HB.out.size
    by_cases hlt : a < j
    · obtain ⟨a', X, d1, s1, d2, s2, haa, haj', hsg', rfl, rfl, rfl, hnext, hpa⟩ := HPA.out a d s hsg hlt hia
      have HC := hpa wr HB.out
      have HCC : Hid (type_of% HC) := HC
      have hcE := (HG.out.under HB.out).ends a (by rw [HL.out]; omega)
      have hai0 : (0 : Int) ≤ (a : Int) := by omega
      have hai1 : (a : Int) < (n : Int) := by omega
      have hlti : (a : Int) < (j : Int) := by omega
      have HPL : Hid (type_of% hpl) := hpl
      have HSG : Hid (type_of% hsg') := hsg'
      have HVV : Hid (type_of% hVV) := hVV
      have HSV : Hid (segV L a a' ++ segV L a' j = segV L a j) := segV_cat L a a' j (by omega) haj'
      have HGE : Hid (gE < w.heap.size) := HG.out.ew
      clear HC hpa hpl hsg hsg' hVV HP
      go_wp2_with fail
      refine HCC.out.mono ?_
      rintro r w2 ⟨ct, cv, rfl, hpc, b2⟩
      have HB2 : Hid (Below wr.heap.size wr w2) := b2
      have hs2 := b2.size
      have HPC : Hid (type_of% hpc) := hpc
      have hOw : (w2.alloc (.cells #[.iface ct cv] 107)).ownsRow w.heap.size 107 1 (.slice o k cp) k cs := (HO.out.kept (row := none) ⟨b2.os, b2.tape, b2.output, b2.size, fun k hk _ => b2.block k hk⟩ (by cases hv : (Value.slice o k cp).ownBlock <;> simp)).alloc _
      have HOA : Hid (type_of% hOw) := hOw
      clear b2 hpc hOw HCC
      go_wp2_with (at_builtin; refine wpList_append_lies _ rfl _ _ 77 rfl w.heap.size 107 i0 .nilIface 1 16 Tryd.underlying77 hi hz0 hz1 hz2 rfl (by omega) _ k cs rfl HOA.out ⟨w2.heap.size, 0, none⟩ 1 1 [.iface ct cv] rfl rfl (World.news_of_block (cs := #[.iface ct cv]) (t := 107) (fr := (0, 0)) (heap_alloc_new w2 _)) (by simp [Value.oneCell']) (by omega) (by unfold maxLen; omega) (by omega) (by simp; omega) (w2.heap.size + 1) (by simp) ?_)
      intro g cg w3 hown hgrow hat hlt3
      have hg3 := hgrow.size
      rw [World.size_alloc] at hg3
      have hOB : ∀ g', (Value.slice o k cp).ownBlock = some g' → g' < wr.heap.size := fun g' e => (HO.out.lt g' e).2
      have hkeep : ∀ jj, jj < w2.heap.size → some jj ≠ (Value.slice o k cp).ownBlock → w3.heap[jj]? = w2.heap[jj]? := fun jj hj hne => by
        rw [hgrow.block jj (by simp; omega) hne, Below.heap_alloc _ _ _ hj]
      have hty : ∀ (jj : Nat) (cu : Array Value) (t : TypeId) (fr : Nat × Nat), w2.heap[jj]? = some (.cells cu t fr) → t ≠ 107 → w3.heap[jj]? = w2.heap[jj]? := fun jj cu t fr hj ht => hkeep jj (some_lt hj) fun e => by
        rcases HOA.out.2 with ⟨hv, _⟩ | ⟨g', c', cur', hv, _, hg', _⟩
        · rw [hv] at e
          simp [Value.ownBlock] at e
        · rw [hv] at e
          simp only [Value.ownBlock, Option.some.injEq] at e
          rw [e] at hj
          rw [Below.heap_alloc _ _ _ (some_lt hj), hj] at hg'
          simp only [Option.some.injEq, Obj.cells.injEq] at hg'
          exact ht hg'.2.1
      have HX3 : Hid (w3.heap[w.heap.size]? = some (.cells #[.slice (some ⟨b, f, none⟩) n cap, .slice (some ⟨gE, 0, none⟩) n n, .slice (some ⟨gS, 0, none⟩) n n] 76 (0, 0))) := by
        have h2 := (HB2.out.block _ (some_lt HX.out)).trans HX.out
        exact (hty _ _ _ _ h2 (by decide)).trans h2
      have HB3 : Hid (Below w.heap.size w w3) := ((HB.out.trans (HB2.out.mono hsw)).alloc (by omega) _).grown hgrow (by simp; omega) (fun jj hj => (HO.out.lt jj hj).1)
      have HO3 : Hid (w3.ownsRow w.heap.size 107 1 (.slice (some ⟨g, 0, none⟩) (k + 1) cg) (k + 1) (cs ++ [.iface ct cv])) := hown
      have hg' : ∀ jj, jj < w2.heap.size → some jj ≠ (Value.slice o k cp).ownBlock → some jj ≠ (Value.slice (some ⟨g, 0, none⟩) (k + 1) cg).ownBlock := fun jj hj hne => by
        simp only [Value.ownBlock]
        intro e
        cases e
        rcases hat with h | h
        · exact hne h.symm
        · omega
      have hP3 : PL w3 (Far w w3 (.slice (some ⟨g, 0, none⟩) (k + 1) cg)) cs V0 d0 s0 := by
        refine (HPL.out.keep (w' := w2) (G := fun gg => Far w wr (.slice o k cp) gg) HB2.out.size (fun jj _ _ hj => HB2.out.block jj (some_lt hj)) (fun gg hg hl => ⟨hg, HB2.out.block gg hl⟩)).keep (by omega) (fun jj cu fr hj => hty jj cu 2 fr hj (by decide)) (fun gg hgg hl => ?_)
        exact ⟨⟨hgg.1, by omega, hg' gg hl hgg.2.2⟩, hkeep gg hl hgg.2.2⟩
      have hC3 : PL w3 (Far w w3 (.slice (some ⟨g, 0, none⟩) (k + 1) cg)) [.iface ct cv] (segV L a a') d1 s1 := by
        refine HPC.out.keep (by omega) (fun jj cu fr hj => hty jj cu 2 fr hj (by decide)) (fun gg hgg hl => ?_)
        have hne : some gg ≠ (Value.slice o k cp).ownBlock := fun e => by
          have := hOB gg e.symm
          have := hgg.1
          omega
        exact ⟨⟨Nat.le_trans hsw hgg.1, by omega, hg' gg hl hne⟩, hkeep gg hl hne⟩
      have HP3 : Hid (∃ V0 d0 s0 d s, PL w3 (Far w w3 (.slice (some ⟨g, 0, none⟩) (k + 1) cg)) (cs ++ [.iface ct cv]) V0 d0 s0 ∧ Seg L E S a' j d s ∧ V0 ++ segV L a' j = V ∧ max d0 d = D ∧ s0 + s = Z) := ⟨_, _, _, d2, s2, PL.snoc hC3 hP3, HSG.out, by rw [List.append_assoc, HSV.out]; exact HVV.out, by omega, by omega⟩
      have hcE3 : w3.cell? ⟨gE, a, none⟩ = some (.int .i64 (E.getD a 0)) := (HG.out.under HB3.out).ends a (by rw [HL.out]; omega)
      clear hown hgrow hat hlt3 hg3 hOB hkeep hty hg' hP3 hC3 HPL HPC HSG HVV HSV HO HX HB HB2 HOA y0 y1 y2 hcE
      obtain ⟨y0, y1, y2⟩ := agg3 HX3.out
      rcases hnext with ⟨hE, ha'⟩ | ⟨hE, ha'⟩
      · rw [hE] at hcE3
        subst ha'
        clear hE
        go_wp2
        go_roundw
        case rel => exact ⟨a + 1, k + 1, cg, _, cs ++ [.iface ct cv], rfl, by go_num, by omega, haj', by omega, HO3, HP3, HX3, HB3⟩
        case measure => simp [intOf]; omega
      · rw [hE] at hcE3
        clear hE
        have hq0 : (((a' - 1 : Nat) : Int) == -1) = false := by rw [beq_eq_false_iff_ne]; omega
        have hq1 : (((a' - 1 : Nat) : Int) != -1) = true := by rw [bne, hq0]; rfl
        obtain ⟨q, hq⟩ : ∃ q, a' - 1 = q := ⟨_, rfl⟩
        rw [hq] at hcE3 hq0 hq1
        have haq : a' = q + 1 := by omega
        subst haq
        clear hq
        go_wp2
        go_roundw
        case rel => exact ⟨q + 1, k + 1, cg, _, cs ++ [.iface ct cv], rfl, by go_num, by omega, haj', by omega, HO3, HP3, HX3, HB3⟩
        case measure => simp [intOf]; omega
    · have haj2 : a = j := by omega
      subst haj2
      have hlast : V0 = V ∧ d0 = D ∧ s0 = Z := by
        rw [segV_nil, List.append_nil] at hVV
        cases hsg with
        | nil => exact ⟨hVV, by omega, by omega⟩
        | single => omega
        | block => omega
        | ifN => omega
        | ifE => omega
      obtain ⟨rfl, rfl, rfl⟩ := hlast
      have HPL : Hid (type_of% hpl) := hpl
      clear hpl hsg hVV hD hZ HP
      go_wp2
      go_ret
      exact ⟨o, k, cp, cs, rfl, HO.out, HPL.out.keep (Nat.le_refl _) (fun _ _ _ _ => rfl) (fun g hg _ => ⟨⟨hg.1, hg.2.1⟩, rfl⟩), HB.out⟩

end Go.Proofs.YtmbficofcmfmlaaDoor
