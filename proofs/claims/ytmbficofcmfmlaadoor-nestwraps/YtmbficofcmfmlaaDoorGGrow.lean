/-
  What the program's own partAt does with what is no if.
  What the program's own choiceAt does, and partAt with an if.
  What the program's own choiceAt does with an if that has an else.
  What the program's own partAt does with an if, and between.
  What the program's own between does, for every piece of a body that was matched.
-/
import Derived.Test.YtmbficofcmfmlaaDoorNSeg
import Derived.Test.YtmbficofcmfmlaaDoorNTree2
import Derived.Deep.RegionHeld3
import Derived.Laws.BitsLemmas
namespace Go.Proofs.YtmbficofcmfmlaaDoor
open Go.RowKit

/-- What a grower has: a body and what belongs together in it. -/
structure GR (w : World) (b f gE gS : Nat) (L : List InsD) (E S : List Int) : Prop where
  bw : b < w.heap.size
  ew : gE < w.heap.size
  sw : gS < w.heap.size
  list : ∀ i (h : i < L.length), w.cell? ⟨b, f + i * 4, none⟩ = some (.int .u8 (L[i]).op) ∧ w.cell? ⟨b, f + i * 4 + 1, none⟩ = some (.int .i64 (L[i]).A) ∧ w.cell? ⟨b, f + i * 4 + 2, none⟩ = some (.int .i64 (L[i]).B) ∧ w.cell? ⟨b, f + i * 4 + 3, none⟩ = some (.slice (L[i]).o (L[i]).n (L[i]).cap)
  ok : ∀ d ∈ L, d.ok w
  few : ∀ d ∈ L, d.n ≤ 16
  ends : ∀ i, i < L.length → w.cell? ⟨gE, i, none⟩ = some (.int .i64 (E.getD i 0))
  elses : ∀ i, i < L.length → w.cell? ⟨gS, i, none⟩ = some (.int .i64 (S.getD i 0))
theorem GR.under {w w' : World} {b f gE gS : Nat} {L : List InsD} {E S : List Int} (h : GR w b f gE gS L E S) (bb : Below w.heap.size w w') : GR w' b f gE gS L E S := by
  refine ⟨Nat.lt_of_lt_of_le h.bw bb.size, Nat.lt_of_lt_of_le h.ew bb.size, Nat.lt_of_lt_of_le h.sw bb.size, fun i hi => ?_, fun d hd => (h.ok d hd).below bb, h.few, fun i hi => ?_, fun i hi => ?_⟩
  · rw [bb.cell (p := ⟨b, f + i * 4, none⟩) h.bw, bb.cell (p := ⟨b, f + i * 4 + 1, none⟩) h.bw, bb.cell (p := ⟨b, f + i * 4 + 2, none⟩) h.bw, bb.cell (p := ⟨b, f + i * 4 + 3, none⟩) h.bw]
    exact h.list i hi
  · rw [bb.cell (p := ⟨gE, i, none⟩) h.ew]
    exact h.ends i hi
  · rw [bb.cell (p := ⟨gS, i, none⟩) h.sw]
    exact h.elses i hi
/-- The blocks that were made meanwhile. -/
def New (w w' : World) (g : Nat) : Prop := w.heap.size ≤ g ∧ g < w'.heap.size
/-- What is answered of a piece of a body: a row of parts of its own. -/
def BP (w : World) (V : List V4) (dp sz : Nat) (r : Ending) (w' : World) : Prop := ∃ (o' : Option Addr) (k' cap' : Nat) (cs : List Value), r = .returned (.slice o' k' cap') ∧ w'.ownsRow w.heap.size 107 1 (.slice o' k' cap') k' cs ∧ PL w' (New w w') cs V dp sz ∧ Below w.heap.size w w'
theorem own_row {w w' : World} {G : Nat → Prop} {o : Option Addr} {k cap : Nat} {cs : List Value} {B : Nat} (h : w'.ownsRow B 107 1 (.slice o k cap) k cs) (hG : ∀ g, B ≤ g → g < w'.heap.size → G g) (_hw : w = w) : RowP w' G o k cap cs := by
  rcases h.2 with ⟨hv, hn⟩ | ⟨g, c, cur, hv, hb, hg, hc, hm, hs, ht⟩
  · simp only [Value.slice.injEq] at hv
    obtain ⟨rfl, rfl, rfl⟩ := hv
    have h1 := h.1
    exact ⟨by omega, Nat.le_refl _, by unfold maxLen; omega, Or.inl rfl⟩
  · simp only [Value.slice.injEq] at hv
    obtain ⟨rfl, _, rfl⟩ := hv
    have h1 := h.1
    refine ⟨by omega, hc, hm, ?_⟩
    rcases Nat.eq_zero_or_pos k with h0 | h0
    · exact Or.inl h0
    · exact Or.inr ⟨g, rfl, hG g hb (some_lt hg), ⟨cur, _, hg⟩, fun i hi => h.cellAt i (by omega)⟩
/-- One part is answered. -/
def PP (w : World) (V : List V4) (dp sz : Nat) (r : Ending) (w' : World) : Prop := ∃ (t : TypeId) (v : Value), r = .returned (.iface t v) ∧ PL w' (New w w') [.iface t v] V dp sz ∧ Below w.heap.size w w'
theorem agg3 {w : World} {X : Nat} {c0 c1 c2 : Value} {t : TypeId} (h : w.heap[X]? = some (.cells #[c0, c1, c2] t (0, 0))) : w.cell? ⟨X, 0, none⟩ = some c0 ∧ w.cell? ⟨X, 1, none⟩ = some c1 ∧ w.cell? ⟨X, 2, none⟩ = some c2 := by
  simp [World.cell?, h]
theorem PL.new {w w1 w' : World} {cs : List Value} {L : List V4} {dp sz : Nat} (h : PL w' (New w1 w') cs L dp sz) (hs : w.heap.size ≤ w1.heap.size) : PL w' (New w w') cs L dp sz :=
  h.keep (Nat.le_refl _) (fun _ _ _ _ => rfl) (fun _ hg _ => ⟨⟨Nat.le_trans hs hg.1, hg.2⟩, rfl⟩)
set_option maxHeartbeats 8000000 in
set_option maxRecDepth 1000000 in
theorem part_single (b f cap gE gS n a : Nat) (d : InsD) (w : World) (hbw : b < w.heap.size) (ha : a < n) (_hn : n ≤ 200) (hok : d.ok w) (hfew : d.n ≤ 16) (o2 : d.op ≠ 2) (o3 : d.op ≠ 3) (o4 : d.op ≠ 4) (hc : w.cell? ⟨b, f + a * 4, none⟩ = some (.int .u8 d.op) ∧ w.cell? ⟨b, f + a * 4 + 1, none⟩ = some (.int .i64 d.A) ∧ w.cell? ⟨b, f + a * 4 + 2, none⟩ = some (.int .i64 d.B) ∧ w.cell? ⟨b, f + a * 4 + 3, none⟩ = some (.slice d.o d.n d.cap)) :
    Calls Tryd.prog 65 #[.agg #[.slice (some ⟨b, f, none⟩) n cap, .slice (some ⟨gE, 0, none⟩) n n, .slice (some ⟨gS, 0, none⟩) n n], .int .i64 a] w fun r w' => PP w [d.val] 0 0 r w' := by
  obtain ⟨m0, m1, m2, m3⟩ := hc
  have HCP := fun w' (bb : Below w.heap.size w w') => copied_any d hfew w' (hok.below bb)
  have HCQ : Hid (type_of% HCP) := HCP
  have hai0 : (0 : Int) ≤ (a : Int) := by omega
  have hai1 : (a : Int) < (n : Int) := by omega
  have HGB : Hid ((w.alloc (.cells #[.slice (some ⟨b, f, none⟩) n cap, .slice (some ⟨gE, 0, none⟩) n n, .slice (some ⟨gS, 0, none⟩) n n] 76)).heap[w.heap.size]? = some (.cells #[.slice (some ⟨b, f, none⟩) n cap, .slice (some ⟨gE, 0, none⟩) n n, .slice (some ⟨gS, 0, none⟩) n n] 76 (0, 0))) := heap_alloc_new w _
  clear hok HCP
  go_enter Tryd.func65, Tryd.ntmps65
  go_wp2_with fail
  refine (HCQ.out _ ((Below.refl _ _).alloc (Nat.le_refl _) _)).mono ?_
  rintro r w2 ⟨d', rfl, hval, hnn, hok, b2⟩
  have hop : d'.op = d.op := by have := congrArg V4.op hval; exact this
  have e2 : (d'.op == 2) = false := by rw [beq_eq_false_iff_ne, hop]; exact o2
  have e3 : (d'.op == 3) = false := by rw [beq_eq_false_iff_ne, hop]; exact o3
  have e4 : (d'.op == 4) = false := by rw [beq_eq_false_iff_ne, hop]; exact o4
  have b02 : Below w.heap.size w w2 := ((Below.refl _ _).alloc (Nat.le_refl _) _).trans (b2.mono (by simp))
  have HB2 : Hid (type_of% b02) := b02
  have HOK : Hid (OkT w2 d' ∧ d'.n ≤ 16 ∧ d'.val = d.val) := ⟨hok, by rw [hnn]; exact hfew, hval⟩
  have hs2 := b02.size
  clear b2 b02 hok hval hnn hop HGB
  go_wp2
  go_ret
  have bA : Below w2.heap.size w2 (w2.alloc (.cells #[.int .u8 d'.op, .int .i64 d'.A, .int .i64 d'.B, .slice d'.o d'.n d'.cap] 52)) := (Below.refl _ _).alloc (Nat.le_refl _) _
  refine ⟨_, _, rfl, ?_, HB2.out.trans (bA.mono hs2)⟩
  have hk : OkT _ d' := HOK.out.1.keep bA.size fun j _ _ hj => bA.block j (some_lt hj)
  rw [← HOK.out.2.2]
  exact PL.single d' hk HOK.out.2.1 [] [] 0 0 PL.nil
set_option maxHeartbeats 8000000 in
set_option maxRecDepth 1000000 in
theorem part_block (b f cap gE gS n a q : Nat) (d : InsD) (V : List V4) (di si : Nat) (w : World) (hbw : b < w.heap.size) (hew : gE < w.heap.size) (ha : a < n) (hn : n ≤ 200) (hok : d.ok w) (hfew : d.n ≤ 16) (o23 : d.op = 2 ∨ d.op = 3) (hc : w.cell? ⟨b, f + a * 4, none⟩ = some (.int .u8 d.op) ∧ w.cell? ⟨b, f + a * 4 + 1, none⟩ = some (.int .i64 d.A) ∧ w.cell? ⟨b, f + a * 4 + 2, none⟩ = some (.int .i64 d.B) ∧ w.cell? ⟨b, f + a * 4 + 3, none⟩ = some (.slice d.o d.n d.cap)) (he : w.cell? ⟨gE, a, none⟩ = some (.int .i64 q))
    (HBT : Hid (∀ (x : Int) w', x = (a : Int) + 1 → Below w.heap.size w w' → Calls Tryd.prog 38 #[.agg #[.slice (some ⟨b, f, none⟩) n cap, .slice (some ⟨gE, 0, none⟩) n n, .slice (some ⟨gS, 0, none⟩) n n], .int .i64 x, .int .i64 q] w' fun r w'' => BP w' V di si r w'')) :
    Calls Tryd.prog 65 #[.agg #[.slice (some ⟨b, f, none⟩) n cap, .slice (some ⟨gE, 0, none⟩) n n, .slice (some ⟨gS, 0, none⟩) n n], .int .i64 a] w fun r w' => PP w (d.val :: (V ++ [endV])) (1 + di) (1 + si) r w' := by
  obtain ⟨m0, m1, m2, m3⟩ := hc
  have HCP := fun w' (bb : Below w.heap.size w w') => copied_any d hfew w' (hok.below bb)
  have HCQ : Hid (type_of% HCP) := HCP
  have hai0 : (0 : Int) ≤ (a : Int) := by omega
  have hai1 : (a : Int) < (n : Int) := by omega
  have HGB : Hid ((w.alloc (.cells #[.slice (some ⟨b, f, none⟩) n cap, .slice (some ⟨gE, 0, none⟩) n n, .slice (some ⟨gS, 0, none⟩) n n] 76)).heap[w.heap.size]? = some (.cells #[.slice (some ⟨b, f, none⟩) n cap, .slice (some ⟨gE, 0, none⟩) n n, .slice (some ⟨gS, 0, none⟩) n n] 76 (0, 0))) := heap_alloc_new w _
  clear hok HCP
  go_enter Tryd.func65, Tryd.ntmps65
  go_wp2_with fail
  refine (HCQ.out _ ((Below.refl _ _).alloc (Nat.le_refl _) _)).mono ?_
  rintro r w2 ⟨d', rfl, hval, hnn, hok, b2⟩
  have hop : d'.op = d.op := by have := congrArg V4.op hval; exact this
  have b02 : Below w.heap.size w w2 := ((Below.refl _ _).alloc (Nat.le_refl _) _).trans (b2.mono (by simp))
  have HB2 : Hid (type_of% b02) := b02
  have HOK : Hid (OkT w2 d' ∧ d'.n ≤ 16 ∧ d'.val = d.val) := ⟨hok, by rw [hnn]; exact hfew, hval⟩
  have hs2 := b02.size
  have HXG : Hid (w2.heap[w.heap.size]? = some (.cells #[.slice (some ⟨b, f, none⟩) n cap, .slice (some ⟨gE, 0, none⟩) n n, .slice (some ⟨gS, 0, none⟩) n n] 76 (0, 0))) := (b2.block _ (some_lt HGB.out)).trans HGB.out
  have bA : Below w2.heap.size w2 (w2.alloc (.cells #[.int .u8 d'.op, .int .i64 d'.A, .int .i64 d'.B, .slice d'.o d'.n d'.cap] 52)).drew := ((Below.refl _ _).alloc (Nat.le_refl _) _).drew
  have HBA : Hid (Below w.heap.size w (w2.alloc (.cells #[.int .u8 d'.op, .int .i64 d'.A, .int .i64 d'.B, .slice d'.o d'.n d'.cap] 52)).drew) := b02.trans (bA.mono hs2)
  have HSA : Hid (∀ w', Below (w2.alloc (.cells #[.int .u8 d'.op, .int .i64 d'.A, .int .i64 d'.B, .slice d'.o d'.n d'.cap] 52)).drew.heap.size (w2.alloc (.cells #[.int .u8 d'.op, .int .i64 d'.A, .int .i64 d'.B, .slice d'.o d'.n d'.cap] 52)).drew w' → (w'.cell? ⟨w2.heap.size, 0, none⟩ = some (.int .u8 d'.op) ∧ w'.cell? ⟨w2.heap.size, 1, none⟩ = some (.int .i64 d'.A) ∧ w'.cell? ⟨w2.heap.size, 2, none⟩ = some (.int .i64 d'.B) ∧ w'.cell? ⟨w2.heap.size, 3, none⟩ = some (.slice d'.o d'.n d'.cap) ∧ w'.cell? ⟨w.heap.size, 0, none⟩ = some (.slice (some ⟨b, f, none⟩) n cap) ∧ w'.cell? ⟨w.heap.size, 1, none⟩ = some (.slice (some ⟨gE, 0, none⟩) n n) ∧ w'.cell? ⟨w.heap.size, 2, none⟩ = some (.slice (some ⟨gS, 0, none⟩) n n) ∧ w'.cell? ⟨gE, a, none⟩ = some (.int .i64 q))) := fun w' bb => by
    have x1 : XS w' w2.heap.size (.int .u8 d'.op) (.int .i64 d'.A) (.int .i64 d'.B) (.slice d'.o d'.n d'.cap) := by
      unfold XS
      rw [bb.block w2.heap.size (by show w2.heap.size < (w2.alloc _).heap.size; simp)]
      exact heap_alloc_new w2 _
    have x2 : w'.heap[w.heap.size]? = some (.cells #[.slice (some ⟨b, f, none⟩) n cap, .slice (some ⟨gE, 0, none⟩) n n, .slice (some ⟨gS, 0, none⟩) n n] 76 (0, 0)) := by
      rw [bb.block w.heap.size (Nat.lt_of_lt_of_le (some_lt HXG.out) bA.size), bA.block w.heap.size (some_lt HXG.out)]
      exact HXG.out
    obtain ⟨y0, y1, y2⟩ := agg3 x2
    obtain ⟨z0, z1, z2, z3⟩ := x1.cell
    refine ⟨z0, z1, z2, z3, y0, y1, y2, ?_⟩
    rw [bb.cell (p := ⟨gE, a, none⟩) (Nat.lt_of_lt_of_le hew HBA.out.size), HBA.out.cell (p := ⟨gE, a, none⟩) hew]
    exact he
  have HOPd : Hid (d'.op = d.op) := hop
  obtain ⟨s0, s1, s2, s3, s4, s5, s6, s7⟩ := HSA.out _ (Below.refl _ _)
  clear b2 b02 hok hval hnn hop HGB bA HCQ
  have he2 : (d'.op == 2) = true ∨ ((d'.op == 2) = false ∧ (d'.op == 3) = true) := by
    rw [HOPd.out]
    rcases o23 with h | h
    · left; rw [h]; rfl
    · right; rw [h]; exact ⟨rfl, rfl⟩
  have HKeep : Hid (∀ w' (bb : Below (w2.alloc (.cells #[.int .u8 d'.op, .int .i64 d'.A, .int .i64 d'.B, .slice d'.o d'.n d'.cap] 52)).drew.heap.size (w2.alloc (.cells #[.int .u8 d'.op, .int .i64 d'.A, .int .i64 d'.B, .slice d'.o d'.n d'.cap] 52)).drew w'), OkT w' d') := fun w' bb => (HOK.out.1.keep (w' := (w2.alloc (.cells #[.int .u8 d'.op, .int .i64 d'.A, .int .i64 d'.B, .slice d'.o d'.n d'.cap] 52)).drew) (by show w2.heap.size ≤ (w2.alloc _).heap.size; simp) fun j _ _ hj => Below.heap_alloc _ _ _ (some_lt hj)).keep bb.size fun j _ _ hj => bb.block j (some_lt hj)
  rcases he2 with e2 | ⟨e2, e3⟩
  all_goals
    clear o23
    go_wp2
    go_region_held3 (fun w' => w'.cell? ⟨w2.heap.size, 0, none⟩ = some (.int .u8 d'.op) ∧ w'.cell? ⟨w2.heap.size, 1, none⟩ = some (.int .i64 d'.A) ∧ w'.cell? ⟨w2.heap.size, 2, none⟩ = some (.int .i64 d'.B) ∧ w'.cell? ⟨w2.heap.size, 3, none⟩ = some (.slice d'.o d'.n d'.cap) ∧ w'.cell? ⟨w.heap.size, 0, none⟩ = some (.slice (some ⟨b, f, none⟩) n cap) ∧ w'.cell? ⟨w.heap.size, 1, none⟩ = some (.slice (some ⟨gE, 0, none⟩) n n) ∧ w'.cell? ⟨w.heap.size, 2, none⟩ = some (.slice (some ⟨gS, 0, none⟩) n n) ∧ w'.cell? ⟨gE, a, none⟩ = some (.int .i64 q))
      (first | exact HSA.out _ (Below.refl _ _) | exact HSA.out _ HB3.out | go_keep)
      (first
        | (go_at_call 38; refine (HBT.out _ _ (by first | rfl | omega | (rw [IntKind.wrap_i64]; omega)) HBA.out).mono ?_; rintro r w3 ⟨o3, k3, cap3, cs3, rfl, hown, hpl, hb3⟩; have HB3 : Hid (type_of% hb3) := hb3; have HRW : Hid (RowP w3 (New w w3) o3 k3 cap3 cs3) := own_row (w := w) hown (fun g h1 h2 => ⟨Nat.le_trans HBA.out.size h1, h2⟩) rfl; have HPL : Hid (PL w3 (New w w3) cs3 V di si) := hpl.new HBA.out.size; clear hown hpl hb3))
    all_goals
      go_wp2
      go_ret
      refine ⟨110, .agg #[.int .u8 d'.op, .int .i64 d'.A, .int .i64 d'.B, .slice d'.o d'.n d'.cap, .slice o3 k3 cap3], rfl, ?_, HBA.out.trans (HB3.out.mono HBA.out.size)⟩
      have hq := PL.block d' (HKeep.out _ HB3.out) HOK.out.2.1 o3 k3 cap3 cs3 V di si HRW.out HPL.out [] [] 0 0 PL.nil
      rw [Nat.add_zero, show max (1 + di) 0 = 1 + di by omega, HOK.out.2.2] at hq
      exact hq

end Go.Proofs.YtmbficofcmfmlaaDoor
namespace Go.Proofs.YtmbficofcmfmlaaDoor
open Go.RowKit

/-- Seven cells are written. -/
def put7 (w : World) (R : Nat) (v0 v1 v2 v3 v4 v5 v6 : Value) : World := ((((((w.setCell ⟨R, 0, none⟩ v0).setCell ⟨R, 1, none⟩ v1).setCell ⟨R, 2, none⟩ v2).setCell ⟨R, 3, none⟩ v3).setCell ⟨R, 4, none⟩ v4).setCell ⟨R, 5, none⟩ v5).setCell ⟨R, 6, none⟩ v6
theorem put7_at {w : World} {R : Nat} {c0 c1 c2 c3 c4 c5 c6 : Value} {t : TypeId} (h : w.heap[R]? = some (.cells #[c0, c1, c2, c3, c4, c5, c6] t (0, 0))) (v0 v1 v2 v3 v4 v5 v6 : Value) : (put7 w R v0 v1 v2 v3 v4 v5 v6).heap[R]? = some (.cells #[v0, v1, v2, v3, v4, v5, v6] t (0, 0)) := by
  simp [put7, World.setCell, Array.getElem?_modify, h]
theorem put7_off {w : World} {R j : Nat} (h : j ≠ R) (v0 v1 v2 v3 v4 v5 v6 : Value) : (put7 w R v0 v1 v2 v3 v4 v5 v6).heap[j]? = w.heap[j]? := by
  simp only [put7]
  rw [Below.heap_setCell _ _ _ _ h, Below.heap_setCell _ _ _ _ h, Below.heap_setCell _ _ _ _ h, Below.heap_setCell _ _ _ _ h, Below.heap_setCell _ _ _ _ h, Below.heap_setCell _ _ _ _ h, Below.heap_setCell _ _ _ _ h]
theorem put7_size (w : World) (R : Nat) (v0 v1 v2 v3 v4 v5 v6 : Value) : (put7 w R v0 v1 v2 v3 v4 v5 v6).heap.size = w.heap.size := by
  simp [put7, World.setCell]
theorem put7_below {B : Nat} {w0 w : World} {R : Nat} (h : Below B w0 w) (hR : B ≤ R) (v0 v1 v2 v3 v4 v5 v6 : Value) : Below B w0 (put7 w R v0 v1 v2 v3 v4 v5 v6) :=
  ((((((h.setCell (p := ⟨R, 0, none⟩) hR _).setCell (p := ⟨R, 1, none⟩) hR _).setCell (p := ⟨R, 2, none⟩) hR _).setCell (p := ⟨R, 3, none⟩) hR _).setCell (p := ⟨R, 4, none⟩) hR _).setCell (p := ⟨R, 5, none⟩) hR _).setCell (p := ⟨R, 6, none⟩) hR _
theorem all7 {w : World} {R : Nat} {c0 c1 c2 c3 c4 c5 c6 : Value} {t : TypeId} (h : w.heap[R]? = some (.cells #[c0, c1, c2, c3, c4, c5, c6] t (0, 0))) : (w.cell? ⟨R, 0, none⟩ = some c0 ∧ w.cell? ⟨R, 1, none⟩ = some c1 ∧ w.cell? ⟨R, 2, none⟩ = some c2 ∧ w.cell? ⟨R, 3, none⟩ = some c3 ∧ w.cell? ⟨R, 4, none⟩ = some c4 ∧ w.cell? ⟨R, 5, none⟩ = some c5 ∧ w.cell? ⟨R, 6, none⟩ = some c6) ∧ (w.frozen? ⟨R, 0, none⟩ = false ∧ w.frozen? ⟨R, 1, none⟩ = false ∧ w.frozen? ⟨R, 2, none⟩ = false ∧ w.frozen? ⟨R, 3, none⟩ = false ∧ w.frozen? ⟨R, 4, none⟩ = false ∧ w.frozen? ⟨R, 5, none⟩ = false ∧ w.frozen? ⟨R, 6, none⟩ = false) := by
  simp [World.cell?, World.frozen?, h]
theorem PL.move {w3 wf WA w : World} {R : Nat} {cur : Array Value} {T : TypeId} {fr : Nat × Nat} {cs : List Value} {L : List V4} {dp sz : Nat} (h : PL w3 (New WA w3) cs L dp sz) (hs : w3.heap.size ≤ wf.heap.size) (hb : ∀ j, j < w3.heap.size → j ≠ R → wf.heap[j]? = w3.heap[j]?) (hR : w3.heap[R]? = some (.cells cur T fr)) (hT : T ≠ 2) (hRA : R < WA.heap.size) (hw : w.heap.size ≤ WA.heap.size) : PL wf (New w wf) cs L dp sz := by
  refine h.keep hs (fun j cu f hj => hb j (some_lt hj) fun e => ?_) (fun g hg hl => ⟨⟨Nat.le_trans hw hg.1, Nat.lt_of_lt_of_le hg.2 hs⟩, hb g hl (by have := hg.1; omega)⟩)
  rw [e, hR] at hj
  simp only [Option.some.injEq, Obj.cells.injEq] at hj
  exact hT hj.2.1
theorem RowP.move {w3 wf WA w : World} {R : Nat} {o : Option Addr} {k cap : Nat} {cs : List Value} (h : RowP w3 (New WA w3) o k cap cs) (hs : w3.heap.size ≤ wf.heap.size) (hb : ∀ j, j < w3.heap.size → j ≠ R → wf.heap[j]? = w3.heap[j]?) (hRA : R < WA.heap.size) (hw : w.heap.size ≤ WA.heap.size) : RowP wf (New w wf) o k cap cs :=
  h.keep fun g hg hl => ⟨⟨Nat.le_trans hw hg.1, Nat.lt_of_lt_of_le hg.2 hs⟩, hb g hl (by have := hg.1; omega)⟩
theorem OkT.under {w w' : World} {d : InsD} (h : OkT w d) (b : Below w.heap.size w w') : OkT w' d := h.keep b.size fun j _ _ hj => b.block j (some_lt hj)
/-- What choiceAt answers. -/
def CP (w : World) (d : InsD) (els : Bool) (V1 : List V4) (d1 s1 : Nat) (V2 : List V4) (d2 s2 : Nat) (r : Ending) (w' : World) : Prop := ∃ (o1 : Option Addr) (k1 cap1 : Nat) (c1 : List Value) (o2 : Option Addr) (k2 cap2 : Nat) (c2 : List Value), r = .returned (.agg #[.int .u8 d.op, .int .i64 d.A, .int .i64 d.B, .slice d.o d.n d.cap, .slice o1 k1 cap1, .bool els, .slice o2 k2 cap2]) ∧ RowP w' (New w w') o1 k1 cap1 c1 ∧ PL w' (New w w') c1 V1 d1 s1 ∧ RowP w' (New w w') o2 k2 cap2 c2 ∧ PL w' (New w w') c2 V2 d2 s2 ∧ (els = false → c2 = []) ∧ OkT w' d ∧ Below w.heap.size w w'
theorem choice_start (b f cap gE gS n : Nat) (d : InsD) (w w' : World) (bb : Below (((w.alloc (.cells #[.slice (some ⟨b, f, none⟩) n cap, .slice (some ⟨gE, 0, none⟩) n n, .slice (some ⟨gS, 0, none⟩) n n] 76)).alloc (.cells #[.int .u8 d.op, .int .i64 d.A, .int .i64 d.B, .slice d.o d.n d.cap] 52)).alloc (.cells #[.int .u8 0, .int .i64 0, .int .i64 0, .slice none 0 0, .slice none 0 0, .bool false, .slice none 0 0] 112)).heap.size (((w.alloc (.cells #[.slice (some ⟨b, f, none⟩) n cap, .slice (some ⟨gE, 0, none⟩) n n, .slice (some ⟨gS, 0, none⟩) n n] 76)).alloc (.cells #[.int .u8 d.op, .int .i64 d.A, .int .i64 d.B, .slice d.o d.n d.cap] 52)).alloc (.cells #[.int .u8 0, .int .i64 0, .int .i64 0, .slice none 0 0, .slice none 0 0, .bool false, .slice none 0 0] 112)) w') : (w'.cell? ⟨w.heap.size, 0, none⟩ = some (.slice (some ⟨b, f, none⟩) n cap) ∧ w'.cell? ⟨w.heap.size, 1, none⟩ = some (.slice (some ⟨gE, 0, none⟩) n n) ∧ w'.cell? ⟨w.heap.size, 2, none⟩ = some (.slice (some ⟨gS, 0, none⟩) n n) ∧ w'.cell? ⟨w.heap.size + 1, 0, none⟩ = some (.int .u8 d.op) ∧ w'.cell? ⟨w.heap.size + 1, 1, none⟩ = some (.int .i64 d.A) ∧ w'.cell? ⟨w.heap.size + 1, 2, none⟩ = some (.int .i64 d.B) ∧ w'.cell? ⟨w.heap.size + 1, 3, none⟩ = some (.slice d.o d.n d.cap)) ∧ w'.heap[w.heap.size + 1 + 1]? = some (.cells #[.int .u8 0, .int .i64 0, .int .i64 0, .slice none 0 0, .slice none 0 0, .bool false, .slice none 0 0] 112 (0, 0)) := by
  have s0 : (w.alloc (.cells #[.slice (some ⟨b, f, none⟩) n cap, .slice (some ⟨gE, 0, none⟩) n n, .slice (some ⟨gS, 0, none⟩) n n] 76)).heap.size = w.heap.size + 1 := World.size_alloc _ _
  have s1 : ((w.alloc (.cells #[.slice (some ⟨b, f, none⟩) n cap, .slice (some ⟨gE, 0, none⟩) n n, .slice (some ⟨gS, 0, none⟩) n n] 76)).alloc (.cells #[.int .u8 d.op, .int .i64 d.A, .int .i64 d.B, .slice d.o d.n d.cap] 52)).heap.size = w.heap.size + 1 + 1 := by rw [World.size_alloc, s0]
  have s2 : (((w.alloc (.cells #[.slice (some ⟨b, f, none⟩) n cap, .slice (some ⟨gE, 0, none⟩) n n, .slice (some ⟨gS, 0, none⟩) n n] 76)).alloc (.cells #[.int .u8 d.op, .int .i64 d.A, .int .i64 d.B, .slice d.o d.n d.cap] 52)).alloc (.cells #[.int .u8 0, .int .i64 0, .int .i64 0, .slice none 0 0, .slice none 0 0, .bool false, .slice none 0 0] 112)).heap.size = w.heap.size + 1 + 1 + 1 := by rw [World.size_alloc, s1]
  have g0 : w'.heap[w.heap.size]? = some (.cells #[.slice (some ⟨b, f, none⟩) n cap, .slice (some ⟨gE, 0, none⟩) n n, .slice (some ⟨gS, 0, none⟩) n n] 76 (0, 0)) := by
    rw [bb.block _ (by omega), Below.heap_alloc _ _ _ (by omega), Below.heap_alloc _ _ _ (by omega)]
    exact heap_alloc_new w _
  have g1 : w'.heap[w.heap.size + 1]? = some (.cells #[.int .u8 d.op, .int .i64 d.A, .int .i64 d.B, .slice d.o d.n d.cap] 52 (0, 0)) := by
    rw [bb.block _ (by omega), Below.heap_alloc _ _ _ (by omega)]
    have := heap_alloc_new (w.alloc (.cells #[.slice (some ⟨b, f, none⟩) n cap, .slice (some ⟨gE, 0, none⟩) n n, .slice (some ⟨gS, 0, none⟩) n n] 76)) (.cells #[.int .u8 d.op, .int .i64 d.A, .int .i64 d.B, .slice d.o d.n d.cap] 52)
    rw [s0] at this
    exact this
  have g2 : w'.heap[w.heap.size + 1 + 1]? = some (.cells #[.int .u8 0, .int .i64 0, .int .i64 0, .slice none 0 0, .slice none 0 0, .bool false, .slice none 0 0] 112 (0, 0)) := by
    rw [bb.block _ (by omega)]
    have := heap_alloc_new ((w.alloc (.cells #[.slice (some ⟨b, f, none⟩) n cap, .slice (some ⟨gE, 0, none⟩) n n, .slice (some ⟨gS, 0, none⟩) n n] 76)).alloc (.cells #[.int .u8 d.op, .int .i64 d.A, .int .i64 d.B, .slice d.o d.n d.cap] 52)) (.cells #[.int .u8 0, .int .i64 0, .int .i64 0, .slice none 0 0, .slice none 0 0, .bool false, .slice none 0 0] 112)
    rw [s1] at this
    exact this
  obtain ⟨a0, a1, a2⟩ := agg3 g0
  have x1 : XS w' (w.heap.size + 1) (.int .u8 d.op) (.int .i64 d.A) (.int .i64 d.B) (.slice d.o d.n d.cap) := g1
  obtain ⟨b0, b1, b2, b3⟩ := x1.cell
  exact ⟨⟨a0, a1, a2, b0, b1, b2, b3⟩, g2⟩
set_option maxHeartbeats 8000000 in
set_option maxRecDepth 1000000 in
theorem choice_no (b f cap gE gS n a q : Nat) (d : InsD) (V : List V4) (di si : Nat) (w : World) (hew : gE < w.heap.size) (hsw : gS < w.heap.size) (ha : a < n) (hn : n ≤ 200) (hok : OkT w d) (he : w.cell? ⟨gE, a, none⟩ = some (.int .i64 q)) (ht : w.cell? ⟨gS, a, none⟩ = some (.int .i64 (-1)))
    (HBT : Hid (∀ (x : Int) w', x = (a : Int) + 1 → Below w.heap.size w w' → Calls Tryd.prog 38 #[.agg #[.slice (some ⟨b, f, none⟩) n cap, .slice (some ⟨gE, 0, none⟩) n n, .slice (some ⟨gS, 0, none⟩) n n], .int .i64 x, .int .i64 q] w' fun r w'' => BP w' V di si r w'')) :
    Calls Tryd.prog 87 #[.agg #[.slice (some ⟨b, f, none⟩) n cap, .slice (some ⟨gE, 0, none⟩) n n, .slice (some ⟨gS, 0, none⟩) n n], .int .i64 a, .agg #[.int .u8 d.op, .int .i64 d.A, .int .i64 d.B, .slice d.o d.n d.cap]] w fun r w' => CP w d false V di si [] 0 0 r w' := by
  have hai0 : (0 : Int) ≤ (a : Int) := by omega
  have nR1 : ¬ (w.heap.size = w.heap.size + 1 + 1) := by omega
  have nR2 : ¬ (w.heap.size + 1 + 1 = w.heap.size) := by omega
  have hai1 : (a : Int) < (n : Int) := by omega
  have HST : Hid (type_of% (choice_start b f cap gE gS n d w)) := choice_start b f cap gE gS n d w
  have b0 : Below w.heap.size w (((w.alloc (.cells #[.slice (some ⟨b, f, none⟩) n cap, .slice (some ⟨gE, 0, none⟩) n n, .slice (some ⟨gS, 0, none⟩) n n] 76)).alloc (.cells #[.int .u8 d.op, .int .i64 d.A, .int .i64 d.B, .slice d.o d.n d.cap] 52)).alloc (.cells #[.int .u8 0, .int .i64 0, .int .i64 0, .slice none 0 0, .slice none 0 0, .bool false, .slice none 0 0] 112)) := (((Below.refl _ _).alloc (Nat.le_refl _) _).alloc (by simp) _).alloc (by simp; omega) _
  have HB0 : Hid (type_of% b0) := b0
  have he0 : (((w.alloc (.cells #[.slice (some ⟨b, f, none⟩) n cap, .slice (some ⟨gE, 0, none⟩) n n, .slice (some ⟨gS, 0, none⟩) n n] 76)).alloc (.cells #[.int .u8 d.op, .int .i64 d.A, .int .i64 d.B, .slice d.o d.n d.cap] 52)).alloc (.cells #[.int .u8 0, .int .i64 0, .int .i64 0, .slice none 0 0, .slice none 0 0, .bool false, .slice none 0 0] 112)).cell? ⟨gE, a, none⟩ = some (.int .i64 q) := by rw [b0.cell (p := ⟨gE, a, none⟩) hew]; exact he
  have ht0 : (((w.alloc (.cells #[.slice (some ⟨b, f, none⟩) n cap, .slice (some ⟨gE, 0, none⟩) n n, .slice (some ⟨gS, 0, none⟩) n n] 76)).alloc (.cells #[.int .u8 d.op, .int .i64 d.A, .int .i64 d.B, .slice d.o d.n d.cap] 52)).alloc (.cells #[.int .u8 0, .int .i64 0, .int .i64 0, .slice none 0 0, .slice none 0 0, .bool false, .slice none 0 0] 112)).cell? ⟨gS, a, none⟩ = some (.int .i64 (-1)) := by rw [b0.cell (p := ⟨gS, a, none⟩) hsw]; exact ht
  have hsz0 : (((w.alloc (.cells #[.slice (some ⟨b, f, none⟩) n cap, .slice (some ⟨gE, 0, none⟩) n n, .slice (some ⟨gS, 0, none⟩) n n] 76)).alloc (.cells #[.int .u8 d.op, .int .i64 d.A, .int .i64 d.B, .slice d.o d.n d.cap] 52)).alloc (.cells #[.int .u8 0, .int .i64 0, .int .i64 0, .slice none 0 0, .slice none 0 0, .bool false, .slice none 0 0] 112)).heap.size = w.heap.size + 3 := by simp
  have HOK : Hid (OkT (((w.alloc (.cells #[.slice (some ⟨b, f, none⟩) n cap, .slice (some ⟨gE, 0, none⟩) n n, .slice (some ⟨gS, 0, none⟩) n n] 76)).alloc (.cells #[.int .u8 d.op, .int .i64 d.A, .int .i64 d.B, .slice d.o d.n d.cap] 52)).alloc (.cells #[.int .u8 0, .int .i64 0, .int .i64 0, .slice none 0 0, .slice none 0 0, .bool false, .slice none 0 0] 112)) d) := hok.under b0
  clear b0 he ht hok
  go_enter Tryd.func87, Tryd.ntmps87
  go_wp2
  generalize ((w.alloc (.cells #[.slice (some ⟨b, f, none⟩) n cap, .slice (some ⟨gE, 0, none⟩) n n, .slice (some ⟨gS, 0, none⟩) n n] 76)).alloc (.cells #[.int .u8 d.op, .int .i64 d.A, .int .i64 d.B, .slice d.o d.n d.cap] 52)).alloc (.cells #[.int .u8 0, .int .i64 0, .int .i64 0, .slice none 0 0, .slice none 0 0, .bool false, .slice none 0 0] 112) = W at HST HB0 he0 ht0 hsz0 HOK ⊢
  obtain ⟨⟨a0, a1, a2, h0, h1, h2, h3⟩, hr⟩ := HST.out _ (Below.refl _ _)
  have HR0 : Hid (type_of% hr) := hr
  clear hr
  go_region_held3 (fun w' => w'.cell? ⟨w.heap.size, 0, none⟩ = some (.slice (some ⟨b, f, none⟩) n cap) ∧ w'.cell? ⟨w.heap.size, 1, none⟩ = some (.slice (some ⟨gE, 0, none⟩) n n) ∧ w'.cell? ⟨w.heap.size, 2, none⟩ = some (.slice (some ⟨gS, 0, none⟩) n n) ∧ w'.cell? ⟨gE, a, none⟩ = some (.int .i64 q) ∧ w'.cell? ⟨gS, a, none⟩ = some (.int .i64 (-1))) (go_keep) (fail)
  all_goals
    go_wp2
    have HBD : Hid (Below W.heap.size W W.drew) := (Below.refl _ _).drew
    have HBW : Hid (Below w.heap.size w W.drew.drew) := HB0.out.drew.drew
    have HBE : Hid (Below W.heap.size W W.drew.drew) := (Below.refl _ _).drew.drew
    have HS0 : Hid (type_of% (HST.out _ HBE.out).1) := (HST.out _ HBE.out).1
    go_region_held3 (fun w' => w'.cell? ⟨w.heap.size, 0, none⟩ = some (.slice (some ⟨b, f, none⟩) n cap) ∧ w'.cell? ⟨w.heap.size, 1, none⟩ = some (.slice (some ⟨gE, 0, none⟩) n n) ∧ w'.cell? ⟨w.heap.size, 2, none⟩ = some (.slice (some ⟨gS, 0, none⟩) n n) ∧ w'.cell? ⟨w.heap.size + 1, 0, none⟩ = some (.int .u8 d.op) ∧ w'.cell? ⟨w.heap.size + 1, 1, none⟩ = some (.int .i64 d.A) ∧ w'.cell? ⟨w.heap.size + 1, 2, none⟩ = some (.int .i64 d.B) ∧ w'.cell? ⟨w.heap.size + 1, 3, none⟩ = some (.slice d.o d.n d.cap)) (first | with_reducible exact HS0.out | with_reducible exact HS3.out | go_keep)
      (first
        | (go_at_call 38; refine (HBT.out _ _ (by first | rfl | omega | (rw [IntKind.wrap_i64]; omega)) HBW.out).mono ?_; rintro r w3 ⟨o3, k3, cap3, cs3, rfl, hown, hpl, hb3⟩; have HB3 : Hid (Below W.heap.size W w3) := HBE.out.trans (hb3.mono (Nat.le_refl _)); have HRW : Hid (RowP w3 (New W w3) o3 k3 cap3 cs3) := own_row (w := w) hown (fun g h1 h2 => ⟨h1, h2⟩) rfl; have HPL : Hid (PL w3 (New W w3) cs3 V di si) := hpl.new (Nat.le_refl _); have HR3 : Hid (w3.heap[w.heap.size + 1 + 1]? = some (.cells #[.int .u8 0, .int .i64 0, .int .i64 0, .slice none 0 0, .slice none 0 0, .bool false, .slice none 0 0] 112 (0, 0))) := (HST.out _ HB3.out).2; obtain ⟨⟨z0, z1, z2, z3, z4, z5, z6⟩, f0, f1, f2, f3, f4, f5, f6⟩ := all7 HR3.out; have HS3 : Hid (type_of% (HST.out _ HB3.out).1) := (HST.out _ HB3.out).1; clear hown hpl hb3))
    all_goals
      go_wp2
      obtain ⟨⟨q0, q1, q2, q3, q4, q5, q6⟩, _⟩ := all7 (put7_at HR3.out (.int .u8 d.op) (.int .i64 d.A) (.int .i64 d.B) (.slice d.o d.n d.cap) (.slice o3 k3 cap3) (.bool false) (.slice none 0 0))
      unfold put7 at q0 q1 q2 q3 q4 q5 q6
      refine bodyPost_ret (v := .agg #[(.int .u8 d.op), (.int .i64 d.A), (.int .i64 d.B), (.slice d.o d.n d.cap), (.slice o3 k3 cap3), (.bool false), (.slice none 0 0)]) (by simp [results, Tryd.results87, go_sem, q0, q1, q2, q3, q4, q5, q6]) rfl ?_
      have hoff := fun j (_ : j < w3.heap.size) (h : j ≠ w.heap.size + 1 + 1) => put7_off (w := w3) h (.int .u8 d.op) (.int .i64 d.A) (.int .i64 d.B) (.slice d.o d.n d.cap) (.slice o3 k3 cap3) (.bool false) (.slice none 0 0)
      have hsz := put7_size w3 (w.heap.size + 1 + 1) (.int .u8 d.op) (.int .i64 d.A) (.int .i64 d.B) (.slice d.o d.n d.cap) (.slice o3 k3 cap3) (.bool false) (.slice none 0 0)
      have hwW : w.heap.size ≤ W.heap.size := HB0.out.size
      refine ⟨o3, k3, cap3, cs3, none, 0, 0, [], rfl, HRW.out.move (Nat.le_of_eq hsz.symm) hoff (by omega) hwW, HPL.out.move (Nat.le_of_eq hsz.symm) hoff HR3.out (by decide) (by omega) hwW, ⟨rfl, Nat.le_refl _, by unfold maxLen; omega, Or.inl rfl⟩, PL.nil, fun _ => rfl, ?_, put7_below (HB0.out.trans (HB3.out.mono hwW)) (by omega) _ _ _ _ _ _ _⟩
      refine (HOK.out.under HB3.out).keep (Nat.le_of_eq hsz.symm) fun j cur f hj => hoff j (some_lt hj) fun e => ?_
      rw [e, HR3.out] at hj
      simp at hj

end Go.Proofs.YtmbficofcmfmlaaDoor
namespace Go.Proofs.YtmbficofcmfmlaaDoor
open Go.RowKit

def put5 (w : World) (R : Nat) (v0 v1 v2 v3 v4 : Value) : World := ((((w.setCell ⟨R, 0, none⟩ v0).setCell ⟨R, 1, none⟩ v1).setCell ⟨R, 2, none⟩ v2).setCell ⟨R, 3, none⟩ v3).setCell ⟨R, 4, none⟩ v4
theorem all5 {w : World} {R : Nat} {c0 c1 c2 c3 c4 : Value} {t : TypeId} (h : w.heap[R]? = some (.cells #[c0, c1, c2, c3, c4] t (0, 0))) : (w.cell? ⟨R, 0, none⟩ = some c0 ∧ w.cell? ⟨R, 1, none⟩ = some c1 ∧ w.cell? ⟨R, 2, none⟩ = some c2 ∧ w.cell? ⟨R, 3, none⟩ = some c3 ∧ w.cell? ⟨R, 4, none⟩ = some c4) ∧ (w.frozen? ⟨R, 0, none⟩ = false ∧ w.frozen? ⟨R, 1, none⟩ = false ∧ w.frozen? ⟨R, 2, none⟩ = false ∧ w.frozen? ⟨R, 3, none⟩ = false ∧ w.frozen? ⟨R, 4, none⟩ = false) := by
  simp [World.cell?, World.frozen?, h]
theorem put5_at {w : World} {R : Nat} {c0 c1 c2 c3 c4 : Value} {t : TypeId} (h : w.heap[R]? = some (.cells #[c0, c1, c2, c3, c4] t (0, 0))) (v0 v1 v2 v3 v4 : Value) : (put5 w R v0 v1 v2 v3 v4).heap[R]? = some (.cells #[v0, v1, v2, v3, v4] t (0, 0)) := by
  simp [put5, World.setCell, Array.getElem?_modify, h]
theorem put5_off {w : World} {R j : Nat} (h : j ≠ R) (v0 v1 v2 v3 v4 : Value) : (put5 w R v0 v1 v2 v3 v4).heap[j]? = w.heap[j]? := by
  simp only [put5]
  rw [Below.heap_setCell _ _ _ _ h, Below.heap_setCell _ _ _ _ h, Below.heap_setCell _ _ _ _ h, Below.heap_setCell _ _ _ _ h, Below.heap_setCell _ _ _ _ h]
theorem put5_size (w : World) (R : Nat) (v0 v1 v2 v3 v4 : Value) : (put5 w R v0 v1 v2 v3 v4).heap.size = w.heap.size := by
  simp [put5, World.setCell]
theorem put5_below {B : Nat} {w0 w : World} {R : Nat} (h : Below B w0 w) (hR : B ≤ R) (v0 v1 v2 v3 v4 : Value) : Below B w0 (put5 w R v0 v1 v2 v3 v4) :=
  ((((h.setCell (p := ⟨R, 0, none⟩) hR _).setCell (p := ⟨R, 1, none⟩) hR _).setCell (p := ⟨R, 2, none⟩) hR _).setCell (p := ⟨R, 3, none⟩) hR _).setCell (p := ⟨R, 4, none⟩) hR _
set_option maxHeartbeats 16000000 in
set_option maxRecDepth 1000000 in
theorem choice_yes (b f cap gE gS n a t q : Nat) (d : InsD) (V1 : List V4) (d1 s1 : Nat) (V2 : List V4) (d2 s2 : Nat) (w : World) (hew : gE < w.heap.size) (hsw : gS < w.heap.size) (ha : a < n) (htn : t < n) (hn : n ≤ 200) (hok : OkT w d) (he : w.cell? ⟨gE, a, none⟩ = some (.int .i64 q)) (ht : w.cell? ⟨gS, a, none⟩ = some (.int .i64 t))
    (HBT : Hid (∀ (x : Int) w', x = (a : Int) + 1 → Below w.heap.size w w' → Calls Tryd.prog 38 #[.agg #[.slice (some ⟨b, f, none⟩) n cap, .slice (some ⟨gE, 0, none⟩) n n, .slice (some ⟨gS, 0, none⟩) n n], .int .i64 x, .int .i64 t] w' fun r w'' => BP w' V1 d1 s1 r w''))
    (HBU : Hid (∀ (x : Int) w', x = (t : Int) + 1 → Below w.heap.size w w' → Calls Tryd.prog 38 #[.agg #[.slice (some ⟨b, f, none⟩) n cap, .slice (some ⟨gE, 0, none⟩) n n, .slice (some ⟨gS, 0, none⟩) n n], .int .i64 x, .int .i64 q] w' fun r w'' => BP w' V2 d2 s2 r w'')) :
    Calls Tryd.prog 87 #[.agg #[.slice (some ⟨b, f, none⟩) n cap, .slice (some ⟨gE, 0, none⟩) n n, .slice (some ⟨gS, 0, none⟩) n n], .int .i64 a, .agg #[.int .u8 d.op, .int .i64 d.A, .int .i64 d.B, .slice d.o d.n d.cap]] w fun r w' => CP w d true V1 d1 s1 V2 d2 s2 r w' := by
  have hai0 : (0 : Int) ≤ (a : Int) := by omega
  have nR1 : ¬ (w.heap.size = w.heap.size + 1 + 1) := by omega
  have nR2 : ¬ (w.heap.size + 1 + 1 = w.heap.size) := by omega
  have hai1 : (a : Int) < (n : Int) := by omega
  have hti : ((t : Int) == -1) = false := by rw [beq_eq_false_iff_ne]; omega
  have HST : Hid (type_of% (choice_start b f cap gE gS n d w)) := choice_start b f cap gE gS n d w
  have b0 : Below w.heap.size w (((w.alloc (.cells #[.slice (some ⟨b, f, none⟩) n cap, .slice (some ⟨gE, 0, none⟩) n n, .slice (some ⟨gS, 0, none⟩) n n] 76)).alloc (.cells #[.int .u8 d.op, .int .i64 d.A, .int .i64 d.B, .slice d.o d.n d.cap] 52)).alloc (.cells #[.int .u8 0, .int .i64 0, .int .i64 0, .slice none 0 0, .slice none 0 0, .bool false, .slice none 0 0] 112)) := (((Below.refl _ _).alloc (Nat.le_refl _) _).alloc (by simp) _).alloc (by simp; omega) _
  have HB0 : Hid (type_of% b0) := b0
  have he0 : (((w.alloc (.cells #[.slice (some ⟨b, f, none⟩) n cap, .slice (some ⟨gE, 0, none⟩) n n, .slice (some ⟨gS, 0, none⟩) n n] 76)).alloc (.cells #[.int .u8 d.op, .int .i64 d.A, .int .i64 d.B, .slice d.o d.n d.cap] 52)).alloc (.cells #[.int .u8 0, .int .i64 0, .int .i64 0, .slice none 0 0, .slice none 0 0, .bool false, .slice none 0 0] 112)).cell? ⟨gE, a, none⟩ = some (.int .i64 q) := by rw [b0.cell (p := ⟨gE, a, none⟩) hew]; exact he
  have ht0 : (((w.alloc (.cells #[.slice (some ⟨b, f, none⟩) n cap, .slice (some ⟨gE, 0, none⟩) n n, .slice (some ⟨gS, 0, none⟩) n n] 76)).alloc (.cells #[.int .u8 d.op, .int .i64 d.A, .int .i64 d.B, .slice d.o d.n d.cap] 52)).alloc (.cells #[.int .u8 0, .int .i64 0, .int .i64 0, .slice none 0 0, .slice none 0 0, .bool false, .slice none 0 0] 112)).cell? ⟨gS, a, none⟩ = some (.int .i64 t) := by rw [b0.cell (p := ⟨gS, a, none⟩) hsw]; exact ht
  have HSZ0 : Hid ((((w.alloc (.cells #[.slice (some ⟨b, f, none⟩) n cap, .slice (some ⟨gE, 0, none⟩) n n, .slice (some ⟨gS, 0, none⟩) n n] 76)).alloc (.cells #[.int .u8 d.op, .int .i64 d.A, .int .i64 d.B, .slice d.o d.n d.cap] 52)).alloc (.cells #[.int .u8 0, .int .i64 0, .int .i64 0, .slice none 0 0, .slice none 0 0, .bool false, .slice none 0 0] 112)).heap.size = w.heap.size + 3) := by unfold Hid; simp
  have HOK : Hid (OkT (((w.alloc (.cells #[.slice (some ⟨b, f, none⟩) n cap, .slice (some ⟨gE, 0, none⟩) n n, .slice (some ⟨gS, 0, none⟩) n n] 76)).alloc (.cells #[.int .u8 d.op, .int .i64 d.A, .int .i64 d.B, .slice d.o d.n d.cap] 52)).alloc (.cells #[.int .u8 0, .int .i64 0, .int .i64 0, .slice none 0 0, .slice none 0 0, .bool false, .slice none 0 0] 112)) d) := hok.under b0
  clear b0 he ht hok
  go_enter Tryd.func87, Tryd.ntmps87
  go_wp2
  generalize ((w.alloc (.cells #[.slice (some ⟨b, f, none⟩) n cap, .slice (some ⟨gE, 0, none⟩) n n, .slice (some ⟨gS, 0, none⟩) n n] 76)).alloc (.cells #[.int .u8 d.op, .int .i64 d.A, .int .i64 d.B, .slice d.o d.n d.cap] 52)).alloc (.cells #[.int .u8 0, .int .i64 0, .int .i64 0, .slice none 0 0, .slice none 0 0, .bool false, .slice none 0 0] 112) = W at HST HB0 he0 ht0 HSZ0 HOK ⊢
  obtain ⟨⟨a0, a1, a2, h0, h1, h2, h3⟩, hr⟩ := HST.out _ (Below.refl _ _)
  have HR0 : Hid (type_of% hr) := hr
  clear hr
  go_region_held3 (fun w' => w'.cell? ⟨w.heap.size, 0, none⟩ = some (.slice (some ⟨b, f, none⟩) n cap) ∧ w'.cell? ⟨w.heap.size, 1, none⟩ = some (.slice (some ⟨gE, 0, none⟩) n n) ∧ w'.cell? ⟨w.heap.size, 2, none⟩ = some (.slice (some ⟨gS, 0, none⟩) n n) ∧ w'.cell? ⟨gE, a, none⟩ = some (.int .i64 q) ∧ w'.cell? ⟨gS, a, none⟩ = some (.int .i64 t)) (go_keep) (fail)
  all_goals
    go_wp2
    have HS0 : Hid (type_of% (HST.out _ ((Below.refl _ W).drew.drew)).1) := (HST.out _ ((Below.refl _ W).drew.drew)).1
    have HSF : Hid (type_of% (HST.out _ (((Below.refl _ W).alloc (Nat.le_refl _) (.cells #[.int .u8 0, .int .i64 0, .int .i64 0, .slice none 0 0, .slice none 0 0] 110)).drew.drew)).1) := (HST.out _ (((Below.refl _ W).alloc (Nat.le_refl _) (.cells #[.int .u8 0, .int .i64 0, .int .i64 0, .slice none 0 0, .slice none 0 0] 110)).drew.drew)).1
    obtain ⟨WA, hWA⟩ : ∃ X, W.drew.drew = X := ⟨_, rfl⟩
    obtain ⟨WB, hWB⟩ : ∃ X, (W.alloc (.cells #[.int .u8 0, .int .i64 0, .int .i64 0, .slice none 0 0, .slice none 0 0] 110)).drew.drew = X := ⟨_, rfl⟩
    have HBW : Hid (Below w.heap.size w WA) := hWA ▸ HB0.out.drew.drew
    have HBE : Hid (Below W.heap.size W WA) := hWA ▸ (Below.refl _ _).drew.drew
    have HBX : Hid (Below w.heap.size w WB) := hWB ▸ (HB0.out.alloc HB0.out.size _).drew.drew
    have HBF : Hid (Below W.heap.size W WB) := hWB ▸ ((Below.refl _ _).alloc (Nat.le_refl _) _).drew.drew
    have HZB : Hid (WB.heap[W.heap.size]? = some (.cells #[.int .u8 0, .int .i64 0, .int .i64 0, .slice none 0 0, .slice none 0 0] 110 (0, 0))) := hWB ▸ heap_alloc_new W _
    have HWA : Hid (type_of% hWA) := hWA
    have HWB : Hid (type_of% hWB) := hWB
    clear hWA hWB
    go_region_held3 (fun w' => w'.cell? ⟨w.heap.size, 0, none⟩ = some (.slice (some ⟨b, f, none⟩) n cap) ∧ w'.cell? ⟨w.heap.size, 1, none⟩ = some (.slice (some ⟨gE, 0, none⟩) n n) ∧ w'.cell? ⟨w.heap.size, 2, none⟩ = some (.slice (some ⟨gS, 0, none⟩) n n) ∧ w'.cell? ⟨w.heap.size + 1, 0, none⟩ = some (.int .u8 d.op) ∧ w'.cell? ⟨w.heap.size + 1, 1, none⟩ = some (.int .i64 d.A) ∧ w'.cell? ⟨w.heap.size + 1, 2, none⟩ = some (.int .i64 d.B) ∧ w'.cell? ⟨w.heap.size + 1, 3, none⟩ = some (.slice d.o d.n d.cap)) (first | with_reducible exact HS0.out | with_reducible exact HS3.out | with_reducible exact HSF.out | with_reducible exact HS4.out | with_reducible exact HS5.out | with_reducible exact HS6.out | go_keep)
      (first
        | (go_at_call 38; rw [HWA.out]; refine (HBT.out _ WA (by first | rfl | omega | (rw [IntKind.wrap_i64]; omega)) HBW.out).mono ?_; rintro r w3 ⟨o3, k3, cap3, cs3, rfl, hown, hpl, hb3⟩; have HC3 : Hid (Below WA.heap.size WA w3) := hb3; have HB3 : Hid (Below W.heap.size W w3) := HBE.out.trans (hb3.mono HBE.out.size); have HRW : Hid (RowP w3 (New WA w3) o3 k3 cap3 cs3) := own_row (w := w) hown (fun g h1 h2 => ⟨h1, h2⟩) rfl; have HPL : Hid (PL w3 (New WA w3) cs3 V1 d1 s1) := hpl; have HS3 : Hid (type_of% (HST.out _ HB3.out).1) := (HST.out _ HB3.out).1; have HS4 : Hid (type_of% (HST.out (w3.alloc (.cells #[.int .u8 0, .int .i64 0, .int .i64 0, .slice none 0 0, .slice none 0 0] 110)) (HB3.out.alloc HB3.out.size _)).1) := (HST.out (w3.alloc (.cells #[.int .u8 0, .int .i64 0, .int .i64 0, .slice none 0 0, .slice none 0 0] 110)) (HB3.out.alloc HB3.out.size _)).1; have HS5 : Hid (type_of% (HST.out (w3.alloc (.cells #[.int .u8 d.op, .int .i64 d.A, .int .i64 d.B, .slice d.o d.n d.cap, .slice o3 k3 cap3] 110)) (HB3.out.alloc HB3.out.size _)).1) := (HST.out (w3.alloc (.cells #[.int .u8 d.op, .int .i64 d.A, .int .i64 d.B, .slice d.o d.n d.cap, .slice o3 k3 cap3] 110)) (HB3.out.alloc HB3.out.size _)).1; have HAFTER : Hid True := trivial; clear hown hpl hb3)
        | (go_at_call 38; rw [HWB.out]; refine (HBT.out _ WB (by first | rfl | omega | (rw [IntKind.wrap_i64]; omega)) HBX.out).mono ?_; rintro r w3 ⟨o3, k3, cap3, cs3, rfl, hown, hpl, hb3⟩; have HC3 : Hid (Below WB.heap.size WB w3) := hb3; have HB3 : Hid (Below W.heap.size W w3) := HBF.out.trans (hb3.mono HBF.out.size); have HRW : Hid (RowP w3 (New WB w3) o3 k3 cap3 cs3) := own_row (w := w) hown (fun g h1 h2 => ⟨h1, h2⟩) rfl; have HPL : Hid (PL w3 (New WB w3) cs3 V1 d1 s1) := hpl; have HS3 : Hid (type_of% (HST.out _ HB3.out).1) := (HST.out _ HB3.out).1; have HX3 : Hid (w3.heap[W.heap.size]? = some (.cells #[.int .u8 0, .int .i64 0, .int .i64 0, .slice none 0 0, .slice none 0 0] 110 (0, 0))) := (HC3.out.block _ (some_lt HZB.out)).trans HZB.out; obtain ⟨⟨z0, z1, z2, z3, z4⟩, f0, f1, f2, f3, f4⟩ := all5 HX3.out; have h6 := (HST.out (put5 w3 W.heap.size (.int .u8 d.op) (.int .i64 d.A) (.int .i64 d.B) (.slice d.o d.n d.cap) (.slice o3 k3 cap3)) (put5_below HB3.out (Nat.le_refl _) _ _ _ _ _)).1; unfold put5 at h6; have HS6 : Hid (type_of% h6) := h6; clear h6; have HBEFORE : Hid True := trivial; clear hown hpl hb3))
    · have hno := HAFTER.out
      have bAl : Below w3.heap.size w3 (w3.alloc (.cells #[.int .u8 d.op, .int .i64 d.A, .int .i64 d.B, .slice d.o d.n d.cap, .slice o3 k3 cap3] 110)) := (Below.refl _ _).alloc (Nat.le_refl _) _
      have HB4 : Hid (Below W.heap.size W (w3.alloc (.cells #[.int .u8 d.op, .int .i64 d.A, .int .i64 d.B, .slice d.o d.n d.cap, .slice o3 k3 cap3] 110))) := HB3.out.trans (bAl.mono HB3.out.size)
      have HX9 : Hid ((w3.alloc (.cells #[.int .u8 d.op, .int .i64 d.A, .int .i64 d.B, .slice d.o d.n d.cap, .slice o3 k3 cap3] 110)).heap[w3.heap.size]? = some (.cells #[.int .u8 d.op, .int .i64 d.A, .int .i64 d.B, .slice d.o d.n d.cap, .slice o3 k3 cap3] 110 (0, 0))) := heap_alloc_new w3 _
      have hnewA : ∀ g, New WA w3 g → g < w3.heap.size → New W (w3.alloc (.cells #[.int .u8 d.op, .int .i64 d.A, .int .i64 d.B, .slice d.o d.n d.cap, .slice o3 k3 cap3] 110)) g ∧ (w3.alloc (.cells #[.int .u8 d.op, .int .i64 d.A, .int .i64 d.B, .slice d.o d.n d.cap, .slice o3 k3 cap3] 110)).heap[g]? = w3.heap[g]? := fun g hg hl => ⟨⟨Nat.le_trans HBE.out.size hg.1, Nat.lt_of_lt_of_le hg.2 bAl.size⟩, bAl.block g hl⟩
      have HRW4 : Hid (RowP (w3.alloc (.cells #[.int .u8 d.op, .int .i64 d.A, .int .i64 d.B, .slice d.o d.n d.cap, .slice o3 k3 cap3] 110)) (New W (w3.alloc (.cells #[.int .u8 d.op, .int .i64 d.A, .int .i64 d.B, .slice d.o d.n d.cap, .slice o3 k3 cap3] 110))) o3 k3 cap3 cs3) := HRW.out.keep hnewA
      have HPL4 : Hid (PL (w3.alloc (.cells #[.int .u8 d.op, .int .i64 d.A, .int .i64 d.B, .slice d.o d.n d.cap, .slice o3 k3 cap3] 110)) (New W (w3.alloc (.cells #[.int .u8 d.op, .int .i64 d.A, .int .i64 d.B, .slice d.o d.n d.cap, .slice o3 k3 cap3] 110))) cs3 V1 d1 s1) := HPL.out.keep bAl.size (fun j _ _ hj => bAl.block j (some_lt hj)) hnewA
      clear bAl hnewA HS4 HS5
      have HX99 : Hid (w3.heap.size ≠ w.heap.size + 1 + 1) := by
        unfold Hid
        have h1 := HSZ0.out
        have h2 := HB3.out.size
        omega
      clear HB3 HRW HPL HC3 HWA HWB HBW HBE HBX HBF HZB HS0 HSF HS3
      generalize w3.alloc (.cells #[.int .u8 d.op, .int .i64 d.A, .int .i64 d.B, .slice d.o d.n d.cap, .slice o3 k3 cap3] 110) = W4 at HB4 HX9 HRW4 HPL4 ⊢
      generalize w3.heap.size = X9 at HX9 HX99 ⊢
      have nX1 : ¬ (X9 = w.heap.size + 1 + 1) := HX99.out
      have nX2 : ¬ (w.heap.size + 1 + 1 = X9) := fun e => HX99.out e.symm
      have HBW4 : Hid (Below w.heap.size w W4.drew) := (HB0.out.trans (HB4.out.mono HB0.out.size)).drew
      have HST4 : Hid (∀ w', Below W4.heap.size W4 w' → (w'.cell? ⟨w.heap.size, 0, none⟩ = some (.slice (some ⟨b, f, none⟩) n cap) ∧ w'.cell? ⟨w.heap.size, 1, none⟩ = some (.slice (some ⟨gE, 0, none⟩) n n) ∧ w'.cell? ⟨w.heap.size, 2, none⟩ = some (.slice (some ⟨gS, 0, none⟩) n n) ∧ w'.cell? ⟨X9, 0, none⟩ = some (.int .u8 d.op) ∧ w'.cell? ⟨X9, 1, none⟩ = some (.int .i64 d.A) ∧ w'.cell? ⟨X9, 2, none⟩ = some (.int .i64 d.B) ∧ w'.cell? ⟨X9, 3, none⟩ = some (.slice d.o d.n d.cap) ∧ w'.cell? ⟨X9, 4, none⟩ = some (.slice o3 k3 cap3))) := fun w' bb => by
        obtain ⟨⟨y0, y1, y2, _⟩, _⟩ := HST.out w' (HB4.out.trans (bb.mono HB4.out.size))
        obtain ⟨⟨z0, z1, z2, z3, z4⟩, _⟩ := all5 ((bb.block _ (some_lt HX9.out)).trans HX9.out)
        exact ⟨y0, y1, y2, z0, z1, z2, z3, z4⟩
      have HS7 : Hid (type_of% (HST4.out _ ((Below.refl _ W4).drew))) := HST4.out _ ((Below.refl _ W4).drew)
      obtain ⟨WC, hWC⟩ : ∃ X, W4.drew = X := ⟨_, rfl⟩
      rw [hWC] at HBW4
      have HBC : Hid (Below W4.heap.size W4 WC) := hWC ▸ (Below.refl _ _).drew
      have HWC : Hid (type_of% hWC) := hWC
      clear hWC
      go_wp2
      go_region_held3 (fun w' => w'.cell? ⟨w.heap.size, 0, none⟩ = some (.slice (some ⟨b, f, none⟩) n cap) ∧ w'.cell? ⟨w.heap.size, 1, none⟩ = some (.slice (some ⟨gE, 0, none⟩) n n) ∧ w'.cell? ⟨w.heap.size, 2, none⟩ = some (.slice (some ⟨gS, 0, none⟩) n n) ∧ w'.cell? ⟨X9, 0, none⟩ = some (.int .u8 d.op) ∧ w'.cell? ⟨X9, 1, none⟩ = some (.int .i64 d.A) ∧ w'.cell? ⟨X9, 2, none⟩ = some (.int .i64 d.B) ∧ w'.cell? ⟨X9, 3, none⟩ = some (.slice d.o d.n d.cap) ∧ w'.cell? ⟨X9, 4, none⟩ = some (.slice o3 k3 cap3)) (first | with_reducible exact HS7.out | with_reducible exact HS8.out | go_keep)
        (first
          | (go_at_call 38; rw [HWC.out]; refine (HBU.out _ WC (by first | rfl | omega | (rw [IntKind.wrap_i64]; omega)) HBW4.out).mono ?_; rintro r w5 ⟨o6, k6, cap6, cs6, rfl, hown, hpl, hb5⟩; have HB5 : Hid (Below W4.heap.size W4 w5) := HBC.out.trans (hb5.mono HBC.out.size); have HBW5 : Hid (Below W.heap.size W w5) := HB4.out.trans (HB5.out.mono HB4.out.size); have HRX : Hid (RowP w5 (New W w5) o6 k6 cap6 cs6) := own_row (w := w) hown (fun g h1 h2 => ⟨Nat.le_trans HB4.out.size (Nat.le_trans HBC.out.size h1), h2⟩) rfl; have HPX : Hid (PL w5 (New W w5) cs6 V2 d2 s2) := hpl.new (Nat.le_trans HB4.out.size HBC.out.size); have HR5 : Hid (w5.heap[w.heap.size + 1 + 1]? = some (.cells #[.int .u8 0, .int .i64 0, .int .i64 0, .slice none 0 0, .slice none 0 0, .bool false, .slice none 0 0] 112 (0, 0))) := (HST.out _ HBW5.out).2; obtain ⟨⟨z0, z1, z2, z3, z4, z5, z6⟩, f0, f1, f2, f3, f4, f5, f6⟩ := all7 HR5.out; have HS8 : Hid (type_of% (HST4.out _ HB5.out)) := HST4.out _ HB5.out; clear hown hpl hb5))
      all_goals
        go_wp2
        obtain ⟨⟨q0, q1, q2, q3, q4, q5, q6⟩, _⟩ := all7 (put7_at HR5.out (.int .u8 d.op) (.int .i64 d.A) (.int .i64 d.B) (.slice d.o d.n d.cap) (.slice o3 k3 cap3) (.bool true) (.slice o6 k6 cap6))
        unfold put7 at q0 q1 q2 q3 q4 q5 q6
        refine bodyPost_ret (v := .agg #[(.int .u8 d.op), (.int .i64 d.A), (.int .i64 d.B), (.slice d.o d.n d.cap), (.slice o3 k3 cap3), (.bool true), (.slice o6 k6 cap6)]) (by simp [results, Tryd.results87, go_sem, q0, q1, q2, q3, q4, q5, q6]) rfl ?_
        have hoff := fun j (_ : j < w5.heap.size) (h : j ≠ w.heap.size + 1 + 1) => put7_off (w := w5) h (.int .u8 d.op) (.int .i64 d.A) (.int .i64 d.B) (.slice d.o d.n d.cap) (.slice o3 k3 cap3) (.bool true) (.slice o6 k6 cap6)
        have hsz := put7_size w5 (w.heap.size + 1 + 1) (.int .u8 d.op) (.int .i64 d.A) (.int .i64 d.B) (.slice d.o d.n d.cap) (.slice o3 k3 cap3) (.bool true) (.slice o6 k6 cap6)
        have hwW : w.heap.size ≤ W.heap.size := HB0.out.size
        have hRW : w.heap.size + 1 + 1 < W.heap.size := by have := HSZ0.out; omega
        have hnew : ∀ g, New W W4 g → g < W4.heap.size → New W w5 g ∧ w5.heap[g]? = W4.heap[g]? := fun g hg hl => ⟨⟨hg.1, Nat.lt_of_lt_of_le hg.2 HB5.out.size⟩, HB5.out.block g hl⟩
        refine ⟨o3, k3, cap3, cs3, o6, k6, cap6, cs6, rfl, (HRW4.out.keep hnew).move (Nat.le_of_eq hsz.symm) hoff hRW hwW, (HPL4.out.keep HB5.out.size (fun j _ _ hj => HB5.out.block j (some_lt hj)) hnew).move (Nat.le_of_eq hsz.symm) hoff HR5.out (by decide) hRW hwW, HRX.out.move (Nat.le_of_eq hsz.symm) hoff hRW hwW, HPX.out.move (Nat.le_of_eq hsz.symm) hoff HR5.out (by decide) hRW hwW, (by intro h; cases h), ?_, put7_below (HB0.out.trans (HBW5.out.mono hwW)) (by omega) _ _ _ _ _ _ _⟩
        refine (HOK.out.under HBW5.out).keep (Nat.le_of_eq hsz.symm) fun j cur f hj => hoff j (some_lt hj) fun e => ?_
        rw [e, HR5.out] at hj
        simp at hj
    · have hno := HBEFORE.out
      have hoff9 := fun j (_ : j < w3.heap.size) (h : j ≠ W.heap.size) => put5_off (w := w3) h (.int .u8 d.op) (.int .i64 d.A) (.int .i64 d.B) (.slice d.o d.n d.cap) (.slice o3 k3 cap3)
      have hsz9 := put5_size w3 W.heap.size (.int .u8 d.op) (.int .i64 d.A) (.int .i64 d.B) (.slice d.o d.n d.cap) (.slice o3 k3 cap3)
      have hRB : W.heap.size < WB.heap.size := some_lt HZB.out
      have HB4 : Hid (Below W.heap.size W (((((w3.setCell ⟨W.heap.size, 0, none⟩ (.int .u8 d.op)).setCell ⟨W.heap.size, 1, none⟩ (.int .i64 d.A)).setCell ⟨W.heap.size, 2, none⟩ (.int .i64 d.B)).setCell ⟨W.heap.size, 3, none⟩ (.slice d.o d.n d.cap)).setCell ⟨W.heap.size, 4, none⟩ (.slice o3 k3 cap3))) := put5_below HB3.out (Nat.le_refl _) _ _ _ _ _
      have HX9 : Hid ((((((w3.setCell ⟨W.heap.size, 0, none⟩ (.int .u8 d.op)).setCell ⟨W.heap.size, 1, none⟩ (.int .i64 d.A)).setCell ⟨W.heap.size, 2, none⟩ (.int .i64 d.B)).setCell ⟨W.heap.size, 3, none⟩ (.slice d.o d.n d.cap)).setCell ⟨W.heap.size, 4, none⟩ (.slice o3 k3 cap3)).heap[W.heap.size]? = some (.cells #[.int .u8 d.op, .int .i64 d.A, .int .i64 d.B, .slice d.o d.n d.cap, .slice o3 k3 cap3] 110 (0, 0))) := put5_at HX3.out _ _ _ _ _
      have HRW4 : Hid (RowP (((((w3.setCell ⟨W.heap.size, 0, none⟩ (.int .u8 d.op)).setCell ⟨W.heap.size, 1, none⟩ (.int .i64 d.A)).setCell ⟨W.heap.size, 2, none⟩ (.int .i64 d.B)).setCell ⟨W.heap.size, 3, none⟩ (.slice d.o d.n d.cap)).setCell ⟨W.heap.size, 4, none⟩ (.slice o3 k3 cap3)) (New W (((((w3.setCell ⟨W.heap.size, 0, none⟩ (.int .u8 d.op)).setCell ⟨W.heap.size, 1, none⟩ (.int .i64 d.A)).setCell ⟨W.heap.size, 2, none⟩ (.int .i64 d.B)).setCell ⟨W.heap.size, 3, none⟩ (.slice d.o d.n d.cap)).setCell ⟨W.heap.size, 4, none⟩ (.slice o3 k3 cap3))) o3 k3 cap3 cs3) := HRW.out.move (Nat.le_of_eq hsz9.symm) hoff9 hRB HBF.out.size
      have HPL4 : Hid (PL (((((w3.setCell ⟨W.heap.size, 0, none⟩ (.int .u8 d.op)).setCell ⟨W.heap.size, 1, none⟩ (.int .i64 d.A)).setCell ⟨W.heap.size, 2, none⟩ (.int .i64 d.B)).setCell ⟨W.heap.size, 3, none⟩ (.slice d.o d.n d.cap)).setCell ⟨W.heap.size, 4, none⟩ (.slice o3 k3 cap3)) (New W (((((w3.setCell ⟨W.heap.size, 0, none⟩ (.int .u8 d.op)).setCell ⟨W.heap.size, 1, none⟩ (.int .i64 d.A)).setCell ⟨W.heap.size, 2, none⟩ (.int .i64 d.B)).setCell ⟨W.heap.size, 3, none⟩ (.slice d.o d.n d.cap)).setCell ⟨W.heap.size, 4, none⟩ (.slice o3 k3 cap3))) cs3 V1 d1 s1) := HPL.out.move (Nat.le_of_eq hsz9.symm) hoff9 HX3.out (by decide) hRB HBF.out.size
      clear hoff9 hsz9 hRB HS6 HX3 z0 z1 z2 z3 z4 f0 f1 f2 f3 f4
      have HX99 : Hid (W.heap.size ≠ w.heap.size + 1 + 1) := by
        unfold Hid
        have h1 := HSZ0.out
        have h2 := HB3.out.size
        omega
      clear HB3 HRW HPL HC3 HWA HWB HBW HBE HBX HBF HZB HS0 HSF HS3
      generalize ((((w3.setCell ⟨W.heap.size, 0, none⟩ (.int .u8 d.op)).setCell ⟨W.heap.size, 1, none⟩ (.int .i64 d.A)).setCell ⟨W.heap.size, 2, none⟩ (.int .i64 d.B)).setCell ⟨W.heap.size, 3, none⟩ (.slice d.o d.n d.cap)).setCell ⟨W.heap.size, 4, none⟩ (.slice o3 k3 cap3) = W4 at HB4 HX9 HRW4 HPL4 ⊢
      generalize W.heap.size = X9 at HX9 HX99 ⊢
      have nX1 : ¬ (X9 = w.heap.size + 1 + 1) := HX99.out
      have nX2 : ¬ (w.heap.size + 1 + 1 = X9) := fun e => HX99.out e.symm
      have HBW4 : Hid (Below w.heap.size w W4.drew) := (HB0.out.trans (HB4.out.mono HB0.out.size)).drew
      have HST4 : Hid (∀ w', Below W4.heap.size W4 w' → (w'.cell? ⟨w.heap.size, 0, none⟩ = some (.slice (some ⟨b, f, none⟩) n cap) ∧ w'.cell? ⟨w.heap.size, 1, none⟩ = some (.slice (some ⟨gE, 0, none⟩) n n) ∧ w'.cell? ⟨w.heap.size, 2, none⟩ = some (.slice (some ⟨gS, 0, none⟩) n n) ∧ w'.cell? ⟨X9, 0, none⟩ = some (.int .u8 d.op) ∧ w'.cell? ⟨X9, 1, none⟩ = some (.int .i64 d.A) ∧ w'.cell? ⟨X9, 2, none⟩ = some (.int .i64 d.B) ∧ w'.cell? ⟨X9, 3, none⟩ = some (.slice d.o d.n d.cap) ∧ w'.cell? ⟨X9, 4, none⟩ = some (.slice o3 k3 cap3))) := fun w' bb => by
        obtain ⟨⟨y0, y1, y2, _⟩, _⟩ := HST.out w' (HB4.out.trans (bb.mono HB4.out.size))
        obtain ⟨⟨z0, z1, z2, z3, z4⟩, _⟩ := all5 ((bb.block _ (some_lt HX9.out)).trans HX9.out)
        exact ⟨y0, y1, y2, z0, z1, z2, z3, z4⟩
      have HS7 : Hid (type_of% (HST4.out _ ((Below.refl _ W4).drew))) := HST4.out _ ((Below.refl _ W4).drew)
      obtain ⟨WC, hWC⟩ : ∃ X, W4.drew = X := ⟨_, rfl⟩
      rw [hWC] at HBW4
      have HBC : Hid (Below W4.heap.size W4 WC) := hWC ▸ (Below.refl _ _).drew
      have HWC : Hid (type_of% hWC) := hWC
      clear hWC
      go_wp2
      go_region_held3 (fun w' => w'.cell? ⟨w.heap.size, 0, none⟩ = some (.slice (some ⟨b, f, none⟩) n cap) ∧ w'.cell? ⟨w.heap.size, 1, none⟩ = some (.slice (some ⟨gE, 0, none⟩) n n) ∧ w'.cell? ⟨w.heap.size, 2, none⟩ = some (.slice (some ⟨gS, 0, none⟩) n n) ∧ w'.cell? ⟨X9, 0, none⟩ = some (.int .u8 d.op) ∧ w'.cell? ⟨X9, 1, none⟩ = some (.int .i64 d.A) ∧ w'.cell? ⟨X9, 2, none⟩ = some (.int .i64 d.B) ∧ w'.cell? ⟨X9, 3, none⟩ = some (.slice d.o d.n d.cap) ∧ w'.cell? ⟨X9, 4, none⟩ = some (.slice o3 k3 cap3)) (first | with_reducible exact HS7.out | with_reducible exact HS8.out | go_keep)
        (first
          | (go_at_call 38; rw [HWC.out]; refine (HBU.out _ WC (by first | rfl | omega | (rw [IntKind.wrap_i64]; omega)) HBW4.out).mono ?_; rintro r w5 ⟨o6, k6, cap6, cs6, rfl, hown, hpl, hb5⟩; have HB5 : Hid (Below W4.heap.size W4 w5) := HBC.out.trans (hb5.mono HBC.out.size); have HBW5 : Hid (Below W.heap.size W w5) := HB4.out.trans (HB5.out.mono HB4.out.size); have HRX : Hid (RowP w5 (New W w5) o6 k6 cap6 cs6) := own_row (w := w) hown (fun g h1 h2 => ⟨Nat.le_trans HB4.out.size (Nat.le_trans HBC.out.size h1), h2⟩) rfl; have HPX : Hid (PL w5 (New W w5) cs6 V2 d2 s2) := hpl.new (Nat.le_trans HB4.out.size HBC.out.size); have HR5 : Hid (w5.heap[w.heap.size + 1 + 1]? = some (.cells #[.int .u8 0, .int .i64 0, .int .i64 0, .slice none 0 0, .slice none 0 0, .bool false, .slice none 0 0] 112 (0, 0))) := (HST.out _ HBW5.out).2; obtain ⟨⟨z0, z1, z2, z3, z4, z5, z6⟩, f0, f1, f2, f3, f4, f5, f6⟩ := all7 HR5.out; have HS8 : Hid (type_of% (HST4.out _ HB5.out)) := HST4.out _ HB5.out; clear hown hpl hb5))
      all_goals
        go_wp2
        obtain ⟨⟨q0, q1, q2, q3, q4, q5, q6⟩, _⟩ := all7 (put7_at HR5.out (.int .u8 d.op) (.int .i64 d.A) (.int .i64 d.B) (.slice d.o d.n d.cap) (.slice o3 k3 cap3) (.bool true) (.slice o6 k6 cap6))
        unfold put7 at q0 q1 q2 q3 q4 q5 q6
        refine bodyPost_ret (v := .agg #[(.int .u8 d.op), (.int .i64 d.A), (.int .i64 d.B), (.slice d.o d.n d.cap), (.slice o3 k3 cap3), (.bool true), (.slice o6 k6 cap6)]) (by simp [results, Tryd.results87, go_sem, q0, q1, q2, q3, q4, q5, q6]) rfl ?_
        have hoff := fun j (_ : j < w5.heap.size) (h : j ≠ w.heap.size + 1 + 1) => put7_off (w := w5) h (.int .u8 d.op) (.int .i64 d.A) (.int .i64 d.B) (.slice d.o d.n d.cap) (.slice o3 k3 cap3) (.bool true) (.slice o6 k6 cap6)
        have hsz := put7_size w5 (w.heap.size + 1 + 1) (.int .u8 d.op) (.int .i64 d.A) (.int .i64 d.B) (.slice d.o d.n d.cap) (.slice o3 k3 cap3) (.bool true) (.slice o6 k6 cap6)
        have hwW : w.heap.size ≤ W.heap.size := HB0.out.size
        have hRW : w.heap.size + 1 + 1 < W.heap.size := by have := HSZ0.out; omega
        have hnew : ∀ g, New W W4 g → g < W4.heap.size → New W w5 g ∧ w5.heap[g]? = W4.heap[g]? := fun g hg hl => ⟨⟨hg.1, Nat.lt_of_lt_of_le hg.2 HB5.out.size⟩, HB5.out.block g hl⟩
        refine ⟨o3, k3, cap3, cs3, o6, k6, cap6, cs6, rfl, (HRW4.out.keep hnew).move (Nat.le_of_eq hsz.symm) hoff hRW hwW, (HPL4.out.keep HB5.out.size (fun j _ _ hj => HB5.out.block j (some_lt hj)) hnew).move (Nat.le_of_eq hsz.symm) hoff HR5.out (by decide) hRW hwW, HRX.out.move (Nat.le_of_eq hsz.symm) hoff hRW hwW, HPX.out.move (Nat.le_of_eq hsz.symm) hoff HR5.out (by decide) hRW hwW, (by intro h; cases h), ?_, put7_below (HB0.out.trans (HBW5.out.mono hwW)) (by omega) _ _ _ _ _ _ _⟩
        refine (HOK.out.under HBW5.out).keep (Nat.le_of_eq hsz.symm) fun j cur f hj => hoff j (some_lt hj) fun e => ?_
        rw [e, HR5.out] at hj
        simp at hj

end Go.Proofs.YtmbficofcmfmlaaDoor
namespace Go.Proofs.YtmbficofcmfmlaaDoor
open Go.RowKit

set_option maxHeartbeats 8000000 in
set_option maxRecDepth 1000000 in
theorem part_choice (b f cap gE gS n a : Nat) (d : InsD) (els : Bool) (V1 : List V4) (d1 s1 : Nat) (V2 : List V4) (d2 s2 : Nat) (w : World) (hbw : b < w.heap.size) (ha : a < n) (_hn : n ≤ 200) (hok : d.ok w) (hfew : d.n ≤ 16) (o4 : d.op = 4) (hc : w.cell? ⟨b, f + a * 4, none⟩ = some (.int .u8 d.op) ∧ w.cell? ⟨b, f + a * 4 + 1, none⟩ = some (.int .i64 d.A) ∧ w.cell? ⟨b, f + a * 4 + 2, none⟩ = some (.int .i64 d.B) ∧ w.cell? ⟨b, f + a * 4 + 3, none⟩ = some (.slice d.o d.n d.cap))
    (HCA : Hid (∀ (d' : InsD) w', OkT w' d' → Below w.heap.size w w' → Calls Tryd.prog 87 #[.agg #[.slice (some ⟨b, f, none⟩) n cap, .slice (some ⟨gE, 0, none⟩) n n, .slice (some ⟨gS, 0, none⟩) n n], .int .i64 a, .agg #[.int .u8 d'.op, .int .i64 d'.A, .int .i64 d'.B, .slice d'.o d'.n d'.cap]] w' fun r w'' => CP w' d' els V1 d1 s1 V2 d2 s2 r w'')) :
    Calls Tryd.prog 65 #[.agg #[.slice (some ⟨b, f, none⟩) n cap, .slice (some ⟨gE, 0, none⟩) n n, .slice (some ⟨gS, 0, none⟩) n n], .int .i64 a] w fun r w' => PP w (d.val :: (V1 ++ ((if els = true then elseV :: V2 else []) ++ [endV]))) (max (1 + d1) (1 + d2)) (1 + s1 + s2) r w' := by
  obtain ⟨m0, m1, m2, m3⟩ := hc
  have HCP := fun w' (bb : Below w.heap.size w w') => copied_any d hfew w' (hok.below bb)
  have HCQ : Hid (type_of% HCP) := HCP
  have hai0 : (0 : Int) ≤ (a : Int) := by omega
  have hai1 : (a : Int) < (n : Int) := by omega
  have HGB : Hid ((w.alloc (.cells #[.slice (some ⟨b, f, none⟩) n cap, .slice (some ⟨gE, 0, none⟩) n n, .slice (some ⟨gS, 0, none⟩) n n] 76)).heap[w.heap.size]? = some (.cells #[.slice (some ⟨b, f, none⟩) n cap, .slice (some ⟨gE, 0, none⟩) n n, .slice (some ⟨gS, 0, none⟩) n n] 76 (0, 0))) := heap_alloc_new w _
  have HO4 : Hid (d.op = 4) := o4
  obtain ⟨VV, hVV⟩ : ∃ VV, (if els = true then elseV :: V2 else []) = VV := ⟨_, rfl⟩
  rw [hVV]
  have HVE : Hid (type_of% hVV) := hVV
  clear hVV
  clear hok HCP o4
  go_enter Tryd.func65, Tryd.ntmps65
  go_wp2_with fail
  refine (HCQ.out _ ((Below.refl _ _).alloc (Nat.le_refl _) _)).mono ?_
  rintro r w2 ⟨d', rfl, hval, hnn, hok, b2⟩
  have hop : d'.op = d.op := by have := congrArg V4.op hval; exact this
  have e2 : (d'.op == 2) = false := by rw [beq_eq_false_iff_ne, hop, HO4.out]; decide
  have e3 : (d'.op == 3) = false := by rw [beq_eq_false_iff_ne, hop, HO4.out]; decide
  have e4 : (d'.op == 4) = true := by rw [beq_iff_eq, hop]; exact HO4.out
  have b02 : Below w.heap.size w w2 := ((Below.refl _ _).alloc (Nat.le_refl _) _).trans (b2.mono (by simp))
  have HB2 : Hid (type_of% b02) := b02
  have HOK : Hid (OkT w2 d' ∧ d'.n ≤ 16 ∧ d'.val = d.val) := ⟨hok, by rw [hnn]; exact hfew, hval⟩
  have hs2 := b02.size
  have x2 : (w2.alloc (.cells #[.int .u8 d'.op, .int .i64 d'.A, .int .i64 d'.B, .slice d'.o d'.n d'.cap] 52)).heap[w.heap.size]? = some (.cells #[.slice (some ⟨b, f, none⟩) n cap, .slice (some ⟨gE, 0, none⟩) n n, .slice (some ⟨gS, 0, none⟩) n n] 76 (0, 0)) := by
    have hb := (b2.block _ (some_lt HGB.out)).trans HGB.out
    rw [Below.heap_alloc _ _ _ (some_lt hb)]
    exact hb
  obtain ⟨y0, y1, y2⟩ := agg3 x2
  have bA : Below w2.heap.size w2 (w2.alloc (.cells #[.int .u8 d'.op, .int .i64 d'.A, .int .i64 d'.B, .slice d'.o d'.n d'.cap] 52)) := (Below.refl _ _).alloc (Nat.le_refl _) _
  have HBA : Hid (Below w.heap.size w (w2.alloc (.cells #[.int .u8 d'.op, .int .i64 d'.A, .int .i64 d'.B, .slice d'.o d'.n d'.cap] 52))) := b02.trans (bA.mono hs2)
  have HCB := HCA.out d' _ (HOK.out.1.under bA) HBA.out
  have HCC : Hid (type_of% HCB) := HCB
  clear b2 b02 hok hval hnn hop HGB bA HCQ HCB x2 HCA
  go_wp2_with fail
  refine HCC.out.mono ?_
  rintro r w3 ⟨o1, k1, cap1, c1, o5, k5, cap5, c5, rfl, hr1, hp1, hr2, hp2, hel, hok3, hb3⟩
  have HEL : Hid (els = false → c5 = []) := hel
  clear hel
  go_wp2
  go_ret
  have hsA := HBA.out.size
  refine ⟨112, .agg #[.int .u8 d'.op, .int .i64 d'.A, .int .i64 d'.B, .slice d'.o d'.n d'.cap, .slice o1 k1 cap1, .bool els, .slice o5 k5 cap5], rfl, ?_, HBA.out.trans (hb3.mono hsA)⟩
  have hkr : ∀ g, New (w2.alloc (.cells #[.int .u8 d'.op, .int .i64 d'.A, .int .i64 d'.B, .slice d'.o d'.n d'.cap] 52)) w3 g → g < w3.heap.size → New w w3 g ∧ w3.heap[g]? = w3.heap[g]? := fun g hg _ => ⟨⟨Nat.le_trans hsA hg.1, hg.2⟩, rfl⟩
  have hq := PL.choice d' hok3 HOK.out.2.1 o1 k1 cap1 c1 V1 d1 s1 (hr1.keep hkr) (hp1.new hsA) els o5 k5 cap5 c5 V2 d2 s2 (hr2.keep hkr) (hp2.new hsA) HEL.out [] [] 0 0 PL.nil
  rw [Nat.add_zero, show max (max (1 + d1) (1 + d2)) 0 = max (1 + d1) (1 + d2) by omega, HOK.out.2.2, HVE.out] at hq
  exact hq
/-- The values of the instructions from place i on up to j. -/
def segV (L : List InsD) (i j : Nat) : List V4 := ((L.drop i).take (j - i)).map InsD.val
theorem segV_nil (L : List InsD) (i : Nat) : segV L i i = [] := by
  unfold segV
  simp
theorem segV_cat (L : List InsD) (i a j : Nat) (h1 : i ≤ a) (h2 : a ≤ j) : segV L i a ++ segV L a j = segV L i j := by
  unfold segV
  rw [← List.map_append]
  congr 1
  have e : L.drop a = (L.drop i).drop (a - i) := by rw [List.drop_drop]; congr 1; omega
  rw [e, show j - i = (a - i) + (j - a) by omega, List.take_add]
theorem segV_one (L : List InsD) (a : Nat) (h : a < L.length) : segV L a (a + 1) = [(L[a]).val] := by
  unfold segV
  rw [List.drop_eq_getElem_cons h, show a + 1 - a = 1 by omega]
  rfl
theorem PL.snoc {w : World} {F : Nat → Prop} {c : Value} {X : List V4} {d1 s1 : Nat} (h1 : PL w F [c] X d1 s1) {cs : List Value} {V0 : List V4} {d0 s0 : Nat} (h : PL w F cs V0 d0 s0) : PL w F (cs ++ [c]) (V0 ++ X) (max d0 d1) (s0 + s1) := by
  induction h with
  | nil => rw [List.nil_append, List.nil_append, Nat.zero_add, show max 0 d1 = d1 by omega]; exact h1
  | single d h hn cs L dp sz r ih => exact PL.single d h hn _ _ _ _ ih
  | block d h hn o k cap ci LI di si hr ri cs L dp sz r ihi ih =>
    have := PL.block d h hn o k cap ci LI di si hr ri _ _ _ _ ih
    rw [← Nat.max_assoc, ← Nat.add_assoc] at this
    simpa using this
  | choice d h hn o k cap ci LI di si hr ri els o2 k2 cap2 c2 L2 d2 s2 hr2 ri2 he cs L dp sz r ihi ihj ih =>
    have := PL.choice d h hn o k cap ci LI di si hr ri els o2 k2 cap2 c2 L2 d2 s2 hr2 ri2 he _ _ _ _ ih
    rw [← Nat.max_assoc, ← Nat.add_assoc] at this
    simpa using this
theorem Tryd.infoPart : (Tryd.prog.info? 107).map (fun i => (i.zero, i.size, i.bytes)) = some (some .nilIface, 1, 16) := by kernel_rfl
/-- The blocks that were made meanwhile, but for a row's own. -/
def Far (w w' : World) (v : Value) (g : Nat) : Prop := w.heap.size ≤ g ∧ g < w'.heap.size ∧ some g ≠ v.ownBlock
set_option maxHeartbeats 8000000 in
set_option maxRecDepth 1000000 in
theorem between_core (b f cap gE gS n i j : Nat) (x y : Int) (L : List InsD) (E S : List Int) (D Z : Nat) (w : World) (hx : x = (i : Int)) (hy : y = (j : Int)) (hG : GR w b f gE gS L E S) (HL : Hid (L.length = n)) (hn : n ≤ 200) (hseg : Seg L E S i j D Z)
    (HPA : Hid (∀ a d s, Seg L E S a j d s → a < j → i ≤ a → ∃ a' V d1 s1 d2 s2, a < a' ∧ a' ≤ j ∧ Seg L E S a' j d2 s2 ∧ d = max d1 d2 ∧ s = s1 + s2 ∧ V = segV L a a' ∧ ((E.getD a 0 = -1 ∧ a' = a + 1) ∨ (E.getD a 0 = ((a' - 1 : Nat) : Int) ∧ 0 < a')) ∧ ∀ w', Below w.heap.size w w' → Calls Tryd.prog 65 #[.agg #[.slice (some ⟨b, f, none⟩) n cap, .slice (some ⟨gE, 0, none⟩) n n, .slice (some ⟨gS, 0, none⟩) n n], .int .i64 a] w' fun r w'' => PP w' V d1 s1 r w'')) :
    Calls Tryd.prog 38 #[.agg #[.slice (some ⟨b, f, none⟩) n cap, .slice (some ⟨gE, 0, none⟩) n n, .slice (some ⟨gS, 0, none⟩) n n], .int .i64 x, .int .i64 y] w fun r w' => BP w (segV L i j) D Z r w' := by
  subst hx hy
  obtain ⟨i0, hi, hz0, hz1, hz2⟩ := info_parts Tryd.infoPart
  obtain ⟨hij, hjn⟩ := hseg.le
  rw [HL.out] at hjn
  have HG : Hid (GR w b f gE gS L E S) := hG
  obtain ⟨V, hV⟩ : ∃ V, segV L i j = V := ⟨_, rfl⟩
  rw [hV]
  have bX : Below w.heap.size w (w.alloc (.cells #[.slice (some ⟨b, f, none⟩) n cap, .slice (some ⟨gE, 0, none⟩) n n, .slice (some ⟨gS, 0, none⟩) n n] 76)) := (Below.refl _ _).alloc (Nat.le_refl _) _
  have HB0 : Hid (type_of% bX) := bX
  have HX0 : Hid ((w.alloc (.cells #[.slice (some ⟨b, f, none⟩) n cap, .slice (some ⟨gE, 0, none⟩) n n, .slice (some ⟨gS, 0, none⟩) n n] 76)).heap[w.heap.size]? = some (.cells #[.slice (some ⟨b, f, none⟩) n cap, .slice (some ⟨gE, 0, none⟩) n n, .slice (some ⟨gS, 0, none⟩) n n] 76 (0, 0))) := heap_alloc_new w _
  have HP0 : Hid (∃ V0 d0 s0 d s, PL (w.alloc (.cells #[.slice (some ⟨b, f, none⟩) n cap, .slice (some ⟨gE, 0, none⟩) n n, .slice (some ⟨gS, 0, none⟩) n n] 76)) (Far w (w.alloc (.cells #[.slice (some ⟨b, f, none⟩) n cap, .slice (some ⟨gE, 0, none⟩) n n, .slice (some ⟨gS, 0, none⟩) n n] 76)) (.slice none 0 0)) [] V0 d0 s0 ∧ Seg L E S i j d s ∧ V0 ++ segV L i j = V ∧ max d0 d = D ∧ s0 + s = Z) := ⟨[], 0, 0, D, Z, PL.nil, hseg, by rw [List.nil_append, hV], by omega, by omega⟩
  clear hG hseg hV bX
  go_enter Tryd.func38, Tryd.ntmps38
  go_wp2
  go_loopw [7, 8] (fun pv av wr => ∃ a k cp : Nat, ∃ o : Option Addr, ∃ cs : List Value, pv = .slice o k cp ∧ av = .int .i64 a ∧ i ≤ a ∧ a ≤ j ∧ k ≤ a ∧ Hid (wr.ownsRow w.heap.size 107 1 (.slice o k cp) k cs) ∧ Hid (∃ V0 d0 s0 d s, PL wr (Far w wr (.slice o k cp)) cs V0 d0 s0 ∧ Seg L E S a j d s ∧ V0 ++ segV L a j = V ∧ max d0 d = D ∧ s0 + s = Z) ∧ Hid (wr.heap[w.heap.size]? = some (.cells #[.slice (some ⟨b, f, none⟩) n cap, .slice (some ⟨gE, 0, none⟩) n n, .slice (some ⟨gS, 0, none⟩) n n] 76 (0, 0))) ∧ Hid (Below w.heap.size w wr)) (fun _ av _ => j - (intOf av).toNat)
  case atStart => exact ⟨i, 0, 0, none, [], rfl, rfl, by omega, hij, by omega, World.ownsRow_nil _ _ _ _, HP0, HX0, HB0⟩
  case round =>
    obtain ⟨a, k, cp, o, cs, rfl, rfl, hia, haj, hka, HO, HP, HX, HB⟩ := hrel
    clear HP0 HX0 HB0
    obtain ⟨y0, y1, y2⟩ := agg3 HX.out
    obtain ⟨hcp, hcpm⟩ := own_cap HO.out
    obtain ⟨V0, d0, s0, d, s, hpl, hsg, hVV, hD, hZ⟩ := HP.out
    have hsw := HB.out.size
    by_cases hlt : a < j
    · obtain ⟨a', X, d1, s1, d2, s2, haa, haj', hsg', rfl, rfl, rfl, hnext, hpa⟩ := HPA.out a d s hsg hlt hia
      have HC := hpa wr HB.out
      have HCC : Hid (type_of% HC) := HC
      have hcE := (HG.out.under HB.out).ends a (by rw [HL.out]; omega)
      have hai0 : (0 : Int) ≤ (a : Int) := by omega
      have hai1 : (a : Int) < (n : Int) := by omega
      have hlti : (a : Int) < (j : Int) := by omega
      have HPL : Hid (type_of% hpl) := hpl
      have HSG : Hid (type_of% hsg') := hsg'
      have HVV : Hid (type_of% hVV) := hVV
      have HSV : Hid (segV L a a' ++ segV L a' j = segV L a j) := segV_cat L a a' j (by omega) haj'
      have HGE : Hid (gE < w.heap.size) := HG.out.ew
      clear HC hpa hpl hsg hsg' hVV HP
      go_wp2_with fail
      refine HCC.out.mono ?_
      rintro r w2 ⟨ct, cv, rfl, hpc, b2⟩
      have HB2 : Hid (Below wr.heap.size wr w2) := b2
      have hs2 := b2.size
      have HPC : Hid (type_of% hpc) := hpc
      have hOw : (w2.alloc (.cells #[.iface ct cv] 107)).ownsRow w.heap.size 107 1 (.slice o k cp) k cs := (HO.out.kept (row := none) ⟨b2.os, b2.tape, b2.output, b2.size, fun k hk _ => b2.block k hk⟩ (by cases hv : (Value.slice o k cp).ownBlock <;> simp)).alloc _
      have HOA : Hid (type_of% hOw) := hOw
      clear b2 hpc hOw HCC
      go_wp2_with (at_builtin; refine wpList_append_lies _ rfl _ _ 77 rfl w.heap.size 107 i0 .nilIface 1 16 Tryd.underlying77 hi hz0 hz1 hz2 rfl (by omega) _ k cs rfl HOA.out ⟨w2.heap.size, 0, none⟩ 1 1 [.iface ct cv] rfl rfl (World.news_of_block (cs := #[.iface ct cv]) (t := 107) (fr := (0, 0)) (heap_alloc_new w2 _)) (by simp [Value.oneCell']) (by omega) (by unfold maxLen; omega) (by omega) (by simp; omega) (w2.heap.size + 1) (by simp) ?_)
      intro g cg w3 hown hgrow hat hlt3
      have hg3 := hgrow.size
      rw [World.size_alloc] at hg3
      have hOB : ∀ g', (Value.slice o k cp).ownBlock = some g' → g' < wr.heap.size := fun g' e => (HO.out.lt g' e).2
      have hkeep : ∀ jj, jj < w2.heap.size → some jj ≠ (Value.slice o k cp).ownBlock → w3.heap[jj]? = w2.heap[jj]? := fun jj hj hne => by
        rw [hgrow.block jj (by simp; omega) hne, Below.heap_alloc _ _ _ hj]
      have hty : ∀ (jj : Nat) (cu : Array Value) (t : TypeId) (fr : Nat × Nat), w2.heap[jj]? = some (.cells cu t fr) → t ≠ 107 → w3.heap[jj]? = w2.heap[jj]? := fun jj cu t fr hj ht => hkeep jj (some_lt hj) fun e => by
        rcases HOA.out.2 with ⟨hv, _⟩ | ⟨g', c', cur', hv, _, hg', _⟩
        · rw [hv] at e
          simp [Value.ownBlock] at e
        · rw [hv] at e
          simp only [Value.ownBlock, Option.some.injEq] at e
          rw [e] at hj
          rw [Below.heap_alloc _ _ _ (some_lt hj), hj] at hg'
          simp only [Option.some.injEq, Obj.cells.injEq] at hg'
          exact ht hg'.2.1
      have HX3 : Hid (w3.heap[w.heap.size]? = some (.cells #[.slice (some ⟨b, f, none⟩) n cap, .slice (some ⟨gE, 0, none⟩) n n, .slice (some ⟨gS, 0, none⟩) n n] 76 (0, 0))) := by
        have h2 := (HB2.out.block _ (some_lt HX.out)).trans HX.out
        exact (hty _ _ _ _ h2 (by decide)).trans h2
      have HB3 : Hid (Below w.heap.size w w3) := ((HB.out.trans (HB2.out.mono hsw)).alloc (by omega) _).grown hgrow (by simp; omega) (fun jj hj => (HO.out.lt jj hj).1)
      have HO3 : Hid (w3.ownsRow w.heap.size 107 1 (.slice (some ⟨g, 0, none⟩) (k + 1) cg) (k + 1) (cs ++ [.iface ct cv])) := hown
      have hg' : ∀ jj, jj < w2.heap.size → some jj ≠ (Value.slice o k cp).ownBlock → some jj ≠ (Value.slice (some ⟨g, 0, none⟩) (k + 1) cg).ownBlock := fun jj hj hne => by
        simp only [Value.ownBlock]
        intro e
        cases e
        rcases hat with h | h
        · exact hne h.symm
        · omega
      have hP3 : PL w3 (Far w w3 (.slice (some ⟨g, 0, none⟩) (k + 1) cg)) cs V0 d0 s0 := by
        refine (HPL.out.keep (w' := w2) (G := fun gg => Far w wr (.slice o k cp) gg) HB2.out.size (fun jj _ _ hj => HB2.out.block jj (some_lt hj)) (fun gg hg hl => ⟨hg, HB2.out.block gg hl⟩)).keep (by omega) (fun jj cu fr hj => hty jj cu 2 fr hj (by decide)) (fun gg hgg hl => ?_)
        exact ⟨⟨hgg.1, by omega, hg' gg hl hgg.2.2⟩, hkeep gg hl hgg.2.2⟩
      have hC3 : PL w3 (Far w w3 (.slice (some ⟨g, 0, none⟩) (k + 1) cg)) [.iface ct cv] (segV L a a') d1 s1 := by
        refine HPC.out.keep (by omega) (fun jj cu fr hj => hty jj cu 2 fr hj (by decide)) (fun gg hgg hl => ?_)
        have hne : some gg ≠ (Value.slice o k cp).ownBlock := fun e => by
          have := hOB gg e.symm
          have := hgg.1
          omega
        exact ⟨⟨Nat.le_trans hsw hgg.1, by omega, hg' gg hl hne⟩, hkeep gg hl hne⟩
      have HP3 : Hid (∃ V0 d0 s0 d s, PL w3 (Far w w3 (.slice (some ⟨g, 0, none⟩) (k + 1) cg)) (cs ++ [.iface ct cv]) V0 d0 s0 ∧ Seg L E S a' j d s ∧ V0 ++ segV L a' j = V ∧ max d0 d = D ∧ s0 + s = Z) := ⟨_, _, _, d2, s2, PL.snoc hC3 hP3, HSG.out, by rw [List.append_assoc, HSV.out]; exact HVV.out, by omega, by omega⟩
      have hcE3 : w3.cell? ⟨gE, a, none⟩ = some (.int .i64 (E.getD a 0)) := (HG.out.under HB3.out).ends a (by rw [HL.out]; omega)
      clear hown hgrow hat hlt3 hg3 hOB hkeep hty hg' hP3 hC3 HPL HPC HSG HVV HSV HO HX HB HB2 HOA y0 y1 y2 hcE
      obtain ⟨y0, y1, y2⟩ := agg3 HX3.out
      rcases hnext with ⟨hE, ha'⟩ | ⟨hE, ha'⟩
      · rw [hE] at hcE3
        subst ha'
        clear hE
        go_wp2
        go_roundw
        case rel => exact ⟨a + 1, k + 1, cg, _, cs ++ [.iface ct cv], rfl, by go_num, by omega, haj', by omega, HO3, HP3, HX3, HB3⟩
        case measure => simp [intOf]; omega
      · rw [hE] at hcE3
        clear hE
        have hq0 : (((a' - 1 : Nat) : Int) == -1) = false := by rw [beq_eq_false_iff_ne]; omega
        have hq1 : (((a' - 1 : Nat) : Int) != -1) = true := by rw [bne, hq0]; rfl
        obtain ⟨q, hq⟩ : ∃ q, a' - 1 = q := ⟨_, rfl⟩
        rw [hq] at hcE3 hq0 hq1
        have haq : a' = q + 1 := by omega
        subst haq
        clear hq
        go_wp2
        go_roundw
        case rel => exact ⟨q + 1, k + 1, cg, _, cs ++ [.iface ct cv], rfl, by go_num, by omega, haj', by omega, HO3, HP3, HX3, HB3⟩
        case measure => simp [intOf]; omega
    · have haj2 : a = j := by omega
      subst haj2
      have hlast : V0 = V ∧ d0 = D ∧ s0 = Z := by
        rw [segV_nil, List.append_nil] at hVV
        cases hsg with
        | nil => exact ⟨hVV, by omega, by omega⟩
        | single => omega
        | block => omega
        | ifN => omega
        | ifE => omega
      obtain ⟨rfl, rfl, rfl⟩ := hlast
      have HPL : Hid (type_of% hpl) := hpl
      clear hpl hsg hVV hD hZ HP
      go_wp2
      go_ret
      exact ⟨o, k, cp, cs, rfl, HO.out, HPL.out.keep (Nat.le_refl _) (fun _ _ _ _ => rfl) (fun g hg _ => ⟨⟨hg.1, hg.2.1⟩, rfl⟩), HB.out⟩

end Go.Proofs.YtmbficofcmfmlaaDoor
namespace Go.Proofs.YtmbficofcmfmlaaDoor
open Go.RowKit

theorem val_alone (d : InsD) (k : Int) (hb : besV k = 1) (ho : d.op = k) (hl : d.xs.length = d.n) (hc : chkD d = 0) : d.val = ⟨k, 0, 0, []⟩ := by
  have h1 := val_chk d hl
  obtain ⟨_, hf⟩ := vchk_fit d.val (by rw [h1]; exact hc)
  have ho' : d.val.op = k := ho
  rw [ho', hb] at hf
  rcases hf with h | h | h | h | h | h | h | h | h
  · have hA : d.val.A = 0 := h.2.1
    have hB : d.val.B = 0 := h.2.2.1
    have hx : d.val.xs = [] := h.2.2.2
    have : d.val = ⟨d.val.op, d.val.A, d.val.B, d.val.xs⟩ := rfl
    rw [this, ho', hA, hB, hx]
  all_goals
    have := h.1
    omega
theorem segV_block (L : List InsD) (a q : Nat) (h : a < q) (hq : q < L.length) (v : V4) (hv : (L[q]).val = v) : segV L a (q + 1) = (L[a]'(by omega)).val :: (segV L (a + 1) q ++ [v]) := by
  rw [← segV_cat L a (a + 1) (q + 1) (by omega) (by omega), ← segV_cat L (a + 1) q (q + 1) (by omega) (by omega), segV_one L a (by omega), segV_one L q hq, hv]
  rfl
theorem segV_ifE (L : List InsD) (a t q : Nat) (h : a < t) (ht : t < q) (hq : q < L.length) (v u : V4) (hv : (L[q]).val = v) (hu : (L[t]'(by omega)).val = u) : segV L a (q + 1) = (L[a]'(by omega)).val :: (segV L (a + 1) t ++ (u :: segV L (t + 1) q ++ [v])) := by
  rw [← segV_cat L a (a + 1) (q + 1) (by omega) (by omega), ← segV_cat L (a + 1) t (q + 1) (by omega) (by omega), segV_one L a (by omega), ← segV_cat L t (t + 1) (q + 1) (by omega) (by omega), segV_one L t (by omega), ← segV_cat L (t + 1) q (q + 1) (by omega) (by omega), segV_one L q hq, hv, hu]
  simp
theorem between_any (b f cap gE gS : Nat) (L : List InsD) (E S : List Int) (hn : L.length ≤ 200) (hck : ∀ d ∈ L, chkD d = 0) : ∀ (m i j : Nat) (x y : Int) (D Z : Nat) (w : World), j - i ≤ m → x = (i : Int) → y = (j : Int) → GR w b f gE gS L E S → Seg L E S i j D Z →
    Calls Tryd.prog 38 #[.agg #[.slice (some ⟨b, f, none⟩) L.length cap, .slice (some ⟨gE, 0, none⟩) L.length L.length, .slice (some ⟨gS, 0, none⟩) L.length L.length], .int .i64 x, .int .i64 y] w fun r w' => BP w (segV L i j) D Z r w'
  | 0, i, j, x, y, D, Z, w, hm, hx, hy, hG, hs => between_core b f cap gE gS L.length i j x y L E S D Z w hx hy hG rfl hn hs fun a d s _ h1 h2 => by omega
  | m + 1, i, j, x, y, D, Z, w, hm, hx, hy, hG, hs => by
    refine between_core b f cap gE gS L.length i j x y L E S D Z w hx hy hG rfl hn hs fun a d s hsg haj hia => ?_
    obtain ⟨_, hjL⟩ := hsg.le
    have haL : a < L.length := by omega
    have hmem : L[a] ∈ L := List.getElem_mem haL
    have hopa := opAt_get L a haL
    have lens : ∀ d ∈ L, d.xs.length = d.n := fun d hd => (hG.ok d hd).lj.1
    have hend : ∀ q (hq : q < L.length), opAt L q = 11 → (L[q]).val = endV := fun q hq ho => val_alone (L[q]) 11 (by decide) (by rw [← opAt_get L q hq]; exact ho) (lens _ (List.getElem_mem hq)) (hck _ (List.getElem_mem hq))
    have helse : ∀ q (hq : q < L.length), opAt L q = 5 → (L[q]).val = elseV := fun q hq ho => val_alone (L[q]) 5 (by decide) (by rw [← opAt_get L q hq]; exact ho) (lens _ (List.getElem_mem hq)) (hck _ (List.getElem_mem hq))
    cases hsg with
    | nil => omega
    | single _ _ _ _ h o o5 o11 e r =>
      refine ⟨a + 1, [(L[a]).val], 0, 0, d, s, by omega, by omega, r, by omega, by omega, (segV_one L a haL).symm, Or.inl ⟨e, rfl⟩, fun w' bb => ?_⟩
      have hG' := hG.under bb
      rw [hopa] at o
      exact part_single b f cap gE gS L.length a (L[a]) w' hG'.bw haL hn (hG'.ok _ hmem) (hG'.few _ hmem) (fun h => o (Or.inl h)) (fun h => o (Or.inr (Or.inl h))) (fun h => o (Or.inr (Or.inr h))) (hG'.list a haL)
    | block _ q _ d1 s1 d s h hq o oq e r1 r =>
      refine ⟨q + 1, segV L a (q + 1), 1 + d1, 1 + s1, d, s, by omega, by omega, r, rfl, rfl, rfl, Or.inr ⟨by rw [e]; rfl, by omega⟩, fun w' bb => ?_⟩
      have hG' := hG.under bb
      have he := hG'.ends a haL
      rw [e] at he
      rw [segV_block L a q h (by omega) endV (hend q (by omega) oq)]
      rw [hopa] at o
      exact part_block b f cap gE gS L.length a q (L[a]) (segV L (a + 1) q) d1 s1 w' hG'.bw hG'.ew haL hn (hG'.ok _ hmem) (hG'.few _ hmem) o (hG'.list a haL) he fun x w2 hx b2 => between_any b f cap gE gS L E S hn hck m (a + 1) q x _ d1 s1 w2 (by omega) (by rw [hx]; omega) rfl (hG'.under b2) r1
    | ifN _ q _ d1 s1 d s h hq o oq e t r1 r =>
      refine ⟨q + 1, segV L a (q + 1), 1 + d1, 1 + s1, d, s, by omega, by omega, r, rfl, rfl, rfl, Or.inr ⟨by rw [e]; rfl, by omega⟩, fun w' bb => ?_⟩
      have hG' := hG.under bb
      rw [segV_block L a q h (by omega) endV (hend q (by omega) oq)]
      rw [hopa] at o
      have := part_choice b f cap gE gS L.length a (L[a]) false (segV L (a + 1) q) d1 s1 [] 0 0 w' hG'.bw haL hn (hG'.ok _ hmem) (hG'.few _ hmem) o (hG'.list a haL) fun d' w2 hok b2 => by
        have hG2 := hG'.under b2
        have he := hG2.ends a haL
        have ht := hG2.elses a haL
        rw [e] at he
        rw [t] at ht
        exact choice_no b f cap gE gS L.length a q d' (segV L (a + 1) q) d1 s1 w2 hG2.ew hG2.sw haL hn hok he ht fun x w3 hx b3 => between_any b f cap gE gS L E S hn hck m (a + 1) q x _ d1 s1 w3 (by omega) (by rw [hx]; omega) rfl (hG2.under b3) r1
      rw [show max (1 + d1) (1 + 0) = 1 + d1 by omega] at this
      exact this
    | ifE _ t q _ d1 s1 d2 s2 d s h ht hq o ot oq e te r1 r2 r =>
      refine ⟨q + 1, segV L a (q + 1), max (1 + d1) (1 + d2), 1 + s1 + s2, d, s, by omega, by omega, r, rfl, rfl, rfl, Or.inr ⟨by rw [e]; rfl, by omega⟩, fun w' bb => ?_⟩
      have hG' := hG.under bb
      rw [segV_ifE L a t q h ht (by omega) endV elseV (hend q (by omega) oq) (helse t (by omega) ot)]
      rw [hopa] at o
      exact part_choice b f cap gE gS L.length a (L[a]) true (segV L (a + 1) t) d1 s1 (segV L (t + 1) q) d2 s2 w' hG'.bw haL hn (hG'.ok _ hmem) (hG'.few _ hmem) o (hG'.list a haL) fun d' w2 hok b2 => by
        have hG2 := hG'.under b2
        have he := hG2.ends a haL
        have ht2 := hG2.elses a haL
        rw [e] at he
        rw [te] at ht2
        exact choice_yes b f cap gE gS L.length a t q d' (segV L (a + 1) t) d1 s1 (segV L (t + 1) q) d2 s2 w2 hG2.ew hG2.sw haL (by omega) hn hok he ht2 (fun x w3 hx b3 => between_any b f cap gE gS L E S hn hck m (a + 1) t x _ d1 s1 w3 (by omega) (by rw [hx]; omega) rfl (hG2.under b3) r1) (fun x w3 hx b3 => between_any b f cap gE gS L E S hn hck m (t + 1) q x _ d2 s2 w3 (by omega) (by rw [hx]; omega) rfl (hG2.under b3) r2)

end Go.Proofs.YtmbficofcmfmlaaDoor
