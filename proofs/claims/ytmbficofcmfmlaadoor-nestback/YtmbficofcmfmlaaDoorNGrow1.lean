/-
  What the program's own partAt does with what is no if.
-/
import Derived.Test.YtmbficofcmfmlaaDoorNSeg
import Derived.Test.YtmbficofcmfmlaaDoorNTree2
import Derived.Deep.RegionHeld3
import Derived.Laws.BitsLemmas
namespace Go.Proofs.YtmbficofcmfmlaaDoor
open Go.RowKit

/-- What a grower has: a body and what belongs together in it. -/
structure GR (w : World) (b f gE gS : Nat) (L : List InsD) (E S : List Int) : Prop where
  bw : b < w.heap.size
  ew : gE < w.heap.size
  sw : gS < w.heap.size
  list : ∀ i (h : i < L.length), w.cell? ⟨b, f + i * 4, none⟩ = some (.int .u8 (L[i]).op) ∧ w.cell? ⟨b, f + i * 4 + 1, none⟩ = some (.int .i64 (L[i]).A) ∧ w.cell? ⟨b, f + i * 4 + 2, none⟩ = some (.int .i64 (L[i]).B) ∧ w.cell? ⟨b, f + i * 4 + 3, none⟩ = some (.slice (L[i]).o (L[i]).n (L[i]).cap)
  ok : ∀ d ∈ L, d.ok w
  few : ∀ d ∈ L, d.n ≤ 16
  ends : ∀ i, i < L.length → w.cell? ⟨gE, i, none⟩ = some (.int .i64 (E.getD i 0))
  elses : ∀ i, i < L.length → w.cell? ⟨gS, i, none⟩ = some (.int .i64 (S.getD i 0))
theorem GR.under {w w' : World} {b f gE gS : Nat} {L : List InsD} {E S : List Int} (h : GR w b f gE gS L E S) (bb : Below w.heap.size w w') : GR w' b f gE gS L E S := by
  refine ⟨Nat.lt_of_lt_of_le h.bw bb.size, Nat.lt_of_lt_of_le h.ew bb.size, Nat.lt_of_lt_of_le h.sw bb.size, fun i hi => ?_, fun d hd => (h.ok d hd).below bb, h.few, fun i hi => ?_, fun i hi => ?_⟩
  · rw [bb.cell (p := ⟨b, f + i * 4, none⟩) h.bw, bb.cell (p := ⟨b, f + i * 4 + 1, none⟩) h.bw, bb.cell (p := ⟨b, f + i * 4 + 2, none⟩) h.bw, bb.cell (p := ⟨b, f + i * 4 + 3, none⟩) h.bw]
    exact h.list i hi
  · rw [bb.cell (p := ⟨gE, i, none⟩) h.ew]
    exact h.ends i hi
  · rw [bb.cell (p := ⟨gS, i, none⟩) h.sw]
    exact h.elses i hi
/-- The blocks that were made meanwhile. -/
def New (w w' : World) (g : Nat) : Prop := w.heap.size ≤ g ∧ g < w'.heap.size
/-- What is answered of a piece of a body: a row of parts of its own. -/
def BP (w : World) (V : List V4) (dp sz : Nat) (r : Ending) (w' : World) : Prop := ∃ (o' : Option Addr) (k' cap' : Nat) (cs : List Value), r = .returned (.slice o' k' cap') ∧ w'.ownsRow w.heap.size 107 1 (.slice o' k' cap') k' cs ∧ PL w' (New w w') cs V dp sz ∧ Below w.heap.size w w'
theorem own_row {w w' : World} {G : Nat → Prop} {o : Option Addr} {k cap : Nat} {cs : List Value} {B : Nat} (h : w'.ownsRow B 107 1 (.slice o k cap) k cs) (hG : ∀ g, B ≤ g → g < w'.heap.size → G g) (_hw : w = w) : RowP w' G o k cap cs := by
  rcases h.2 with ⟨hv, hn⟩ | ⟨g, c, cur, hv, hb, hg, hc, hm, hs, ht⟩
  · simp only [Value.slice.injEq] at hv
    obtain ⟨rfl, rfl, rfl⟩ := hv
    have h1 := h.1
    exact ⟨by omega, Nat.le_refl _, by unfold maxLen; omega, Or.inl rfl⟩
  · simp only [Value.slice.injEq] at hv
    obtain ⟨rfl, _, rfl⟩ := hv
    have h1 := h.1
    refine ⟨by omega, hc, hm, ?_⟩
    rcases Nat.eq_zero_or_pos k with h0 | h0
    · exact Or.inl h0
    · exact Or.inr ⟨g, rfl, hG g hb (some_lt hg), ⟨cur, _, hg⟩, fun i hi => h.cellAt i (by omega)⟩
/-- One part is answered. -/
def PP (w : World) (V : List V4) (dp sz : Nat) (r : Ending) (w' : World) : Prop := ∃ (t : TypeId) (v : Value), r = .returned (.iface t v) ∧ PL w' (New w w') [.iface t v] V dp sz ∧ Below w.heap.size w w'
theorem agg3 {w : World} {X : Nat} {c0 c1 c2 : Value} {t : TypeId} (h : w.heap[X]? = some (.cells #[c0, c1, c2] t (0, 0))) : w.cell? ⟨X, 0, none⟩ = some c0 ∧ w.cell? ⟨X, 1, none⟩ = some c1 ∧ w.cell? ⟨X, 2, none⟩ = some c2 := by
  simp [World.cell?, h]
theorem PL.new {w w1 w' : World} {cs : List Value} {L : List V4} {dp sz : Nat} (h : PL w' (New w1 w') cs L dp sz) (hs : w.heap.size ≤ w1.heap.size) : PL w' (New w w') cs L dp sz :=
  h.keep (Nat.le_refl _) (fun _ _ _ _ => rfl) (fun _ hg _ => ⟨⟨Nat.le_trans hs hg.1, hg.2⟩, rfl⟩)
set_option maxHeartbeats 8000000 in
set_option maxRecDepth 1000000 in
theorem part_single (b f cap gE gS n a : Nat) (d : InsD) (w : World) (hbw : b < w.heap.size) (ha : a < n) (_hn : n ≤ 200) (hok : d.ok w) (hfew : d.n ≤ 16) (o2 : d.op ≠ 2) (o3 : d.op ≠ 3) (o4 : d.op ≠ 4) (hc : w.cell? ⟨b, f + a * 4, none⟩ = some (.int .u8 d.op) ∧ w.cell? ⟨b, f + a * 4 + 1, none⟩ = some (.int .i64 d.A) ∧ w.cell? ⟨b, f + a * 4 + 2, none⟩ = some (.int .i64 d.B) ∧ w.cell? ⟨b, f + a * 4 + 3, none⟩ = some (.slice d.o d.n d.cap)) :
    Calls Tryd.prog 65 #[.agg #[.slice (some ⟨b, f, none⟩) n cap, .slice (some ⟨gE, 0, none⟩) n n, .slice (some ⟨gS, 0, none⟩) n n], .int .i64 a] w fun r w' => PP w [d.val] 0 0 r w' := by
  obtain ⟨m0, m1, m2, m3⟩ := hc
  have HCP := fun w' (bb : Below w.heap.size w w') => copied_any d hfew w' (hok.below bb)
  have HCQ : Hid (type_of% HCP) := HCP
  have hai0 : (0 : Int) ≤ (a : Int) := by omega
  have hai1 : (a : Int) < (n : Int) := by omega
  have HGB : Hid ((w.alloc (.cells #[.slice (some ⟨b, f, none⟩) n cap, .slice (some ⟨gE, 0, none⟩) n n, .slice (some ⟨gS, 0, none⟩) n n] 76)).heap[w.heap.size]? = some (.cells #[.slice (some ⟨b, f, none⟩) n cap, .slice (some ⟨gE, 0, none⟩) n n, .slice (some ⟨gS, 0, none⟩) n n] 76 (0, 0))) := heap_alloc_new w _
  clear hok HCP
  go_enter Tryd.func65, Tryd.ntmps65
  go_wp2_with fail
  refine (HCQ.out _ ((Below.refl _ _).alloc (Nat.le_refl _) _)).mono ?_
  rintro r w2 ⟨d', rfl, hval, hnn, hok, b2⟩
  have hop : d'.op = d.op := by have := congrArg V4.op hval; exact this
  have e2 : (d'.op == 2) = false := by rw [beq_eq_false_iff_ne, hop]; exact o2
  have e3 : (d'.op == 3) = false := by rw [beq_eq_false_iff_ne, hop]; exact o3
  have e4 : (d'.op == 4) = false := by rw [beq_eq_false_iff_ne, hop]; exact o4
  have b02 : Below w.heap.size w w2 := ((Below.refl _ _).alloc (Nat.le_refl _) _).trans (b2.mono (by simp))
  have HB2 : Hid (type_of% b02) := b02
  have HOK : Hid (OkT w2 d' ∧ d'.n ≤ 16 ∧ d'.val = d.val) := ⟨hok, by rw [hnn]; exact hfew, hval⟩
  have hs2 := b02.size
  clear b2 b02 hok hval hnn hop HGB
  go_wp2
  go_ret
  have bA : Below w2.heap.size w2 (w2.alloc (.cells #[.int .u8 d'.op, .int .i64 d'.A, .int .i64 d'.B, .slice d'.o d'.n d'.cap] 52)) := (Below.refl _ _).alloc (Nat.le_refl _) _
  refine ⟨_, _, rfl, ?_, HB2.out.trans (bA.mono hs2)⟩
  have hk : OkT _ d' := HOK.out.1.keep bA.size fun j _ _ hj => bA.block j (some_lt hj)
  rw [← HOK.out.2.2]
  exact PL.single d' hk HOK.out.2.1 [] [] 0 0 PL.nil
set_option maxHeartbeats 8000000 in
set_option maxRecDepth 1000000 in
theorem part_block (b f cap gE gS n a q : Nat) (d : InsD) (V : List V4) (di si : Nat) (w : World) (hbw : b < w.heap.size) (hew : gE < w.heap.size) (ha : a < n) (hn : n ≤ 200) (hok : d.ok w) (hfew : d.n ≤ 16) (o23 : d.op = 2 ∨ d.op = 3) (hc : w.cell? ⟨b, f + a * 4, none⟩ = some (.int .u8 d.op) ∧ w.cell? ⟨b, f + a * 4 + 1, none⟩ = some (.int .i64 d.A) ∧ w.cell? ⟨b, f + a * 4 + 2, none⟩ = some (.int .i64 d.B) ∧ w.cell? ⟨b, f + a * 4 + 3, none⟩ = some (.slice d.o d.n d.cap)) (he : w.cell? ⟨gE, a, none⟩ = some (.int .i64 q))
    (HBT : Hid (∀ (x : Int) w', x = (a : Int) + 1 → Below w.heap.size w w' → Calls Tryd.prog 38 #[.agg #[.slice (some ⟨b, f, none⟩) n cap, .slice (some ⟨gE, 0, none⟩) n n, .slice (some ⟨gS, 0, none⟩) n n], .int .i64 x, .int .i64 q] w' fun r w'' => BP w' V di si r w'')) :
    Calls Tryd.prog 65 #[.agg #[.slice (some ⟨b, f, none⟩) n cap, .slice (some ⟨gE, 0, none⟩) n n, .slice (some ⟨gS, 0, none⟩) n n], .int .i64 a] w fun r w' => PP w (d.val :: (V ++ [endV])) (1 + di) (1 + si) r w' := by
  obtain ⟨m0, m1, m2, m3⟩ := hc
  have HCP := fun w' (bb : Below w.heap.size w w') => copied_any d hfew w' (hok.below bb)
  have HCQ : Hid (type_of% HCP) := HCP
  have hai0 : (0 : Int) ≤ (a : Int) := by omega
  have hai1 : (a : Int) < (n : Int) := by omega
  have HGB : Hid ((w.alloc (.cells #[.slice (some ⟨b, f, none⟩) n cap, .slice (some ⟨gE, 0, none⟩) n n, .slice (some ⟨gS, 0, none⟩) n n] 76)).heap[w.heap.size]? = some (.cells #[.slice (some ⟨b, f, none⟩) n cap, .slice (some ⟨gE, 0, none⟩) n n, .slice (some ⟨gS, 0, none⟩) n n] 76 (0, 0))) := heap_alloc_new w _
  clear hok HCP
  go_enter Tryd.func65, Tryd.ntmps65
  go_wp2_with fail
  refine (HCQ.out _ ((Below.refl _ _).alloc (Nat.le_refl _) _)).mono ?_
  rintro r w2 ⟨d', rfl, hval, hnn, hok, b2⟩
  have hop : d'.op = d.op := by have := congrArg V4.op hval; exact this
  have b02 : Below w.heap.size w w2 := ((Below.refl _ _).alloc (Nat.le_refl _) _).trans (b2.mono (by simp))
  have HB2 : Hid (type_of% b02) := b02
  have HOK : Hid (OkT w2 d' ∧ d'.n ≤ 16 ∧ d'.val = d.val) := ⟨hok, by rw [hnn]; exact hfew, hval⟩
  have hs2 := b02.size
  have HXG : Hid (w2.heap[w.heap.size]? = some (.cells #[.slice (some ⟨b, f, none⟩) n cap, .slice (some ⟨gE, 0, none⟩) n n, .slice (some ⟨gS, 0, none⟩) n n] 76 (0, 0))) := (b2.block _ (some_lt HGB.out)).trans HGB.out
  have bA : Below w2.heap.size w2 (w2.alloc (.cells #[.int .u8 d'.op, .int .i64 d'.A, .int .i64 d'.B, .slice d'.o d'.n d'.cap] 52)).drew := ((Below.refl _ _).alloc (Nat.le_refl _) _).drew
  have HBA : Hid (Below w.heap.size w (w2.alloc (.cells #[.int .u8 d'.op, .int .i64 d'.A, .int .i64 d'.B, .slice d'.o d'.n d'.cap] 52)).drew) := b02.trans (bA.mono hs2)
  have HSA : Hid (∀ w', Below (w2.alloc (.cells #[.int .u8 d'.op, .int .i64 d'.A, .int .i64 d'.B, .slice d'.o d'.n d'.cap] 52)).drew.heap.size (w2.alloc (.cells #[.int .u8 d'.op, .int .i64 d'.A, .int .i64 d'.B, .slice d'.o d'.n d'.cap] 52)).drew w' → (w'.cell? ⟨w2.heap.size, 0, none⟩ = some (.int .u8 d'.op) ∧ w'.cell? ⟨w2.heap.size, 1, none⟩ = some (.int .i64 d'.A) ∧ w'.cell? ⟨w2.heap.size, 2, none⟩ = some (.int .i64 d'.B) ∧ w'.cell? ⟨w2.heap.size, 3, none⟩ = some (.slice d'.o d'.n d'.cap) ∧ w'.cell? ⟨w.heap.size, 0, none⟩ = some (.slice (some ⟨b, f, none⟩) n cap) ∧ w'.cell? ⟨w.heap.size, 1, none⟩ = some (.slice (some ⟨gE, 0, none⟩) n n) ∧ w'.cell? ⟨w.heap.size, 2, none⟩ = some (.slice (some ⟨gS, 0, none⟩) n n) ∧ w'.cell? ⟨gE, a, none⟩ = some (.int .i64 q))) := fun w' bb => by
    have x1 : XS w' w2.heap.size (.int .u8 d'.op) (.int .i64 d'.A) (.int .i64 d'.B) (.slice d'.o d'.n d'.cap) := by
      unfold XS
      rw [bb.block w2.heap.size (by show w2.heap.size < (w2.alloc _).heap.size; simp)]
      exact heap_alloc_new w2 _
    have x2 : w'.heap[w.heap.size]? = some (.cells #[.slice (some ⟨b, f, none⟩) n cap, .slice (some ⟨gE, 0, none⟩) n n, .slice (some ⟨gS, 0, none⟩) n n] 76 (0, 0)) := by
      rw [bb.block w.heap.size (Nat.lt_of_lt_of_le (some_lt HXG.out) bA.size), bA.block w.heap.size (some_lt HXG.out)]
      exact HXG.out
    obtain ⟨y0, y1, y2⟩ := agg3 x2
    obtain ⟨z0, z1, z2, z3⟩ := x1.cell
    refine ⟨z0, z1, z2, z3, y0, y1, y2, ?_⟩
    rw [bb.cell (p := ⟨gE, a, none⟩) (Nat.lt_of_lt_of_le hew HBA.out.size), HBA.out.cell (p := ⟨gE, a, none⟩) hew]
    exact he
  have HOPd : Hid (d'.op = d.op) := hop
  obtain ⟨s0, s1, s2, s3, s4, s5, s6, s7⟩ := HSA.out _ (Below.refl _ _)
  clear b2 b02 hok hval hnn hop HGB bA HCQ
  have he2 : (d'.op == 2) = true ∨ ((d'.op == 2) = false ∧ (d'.op == 3) = true) := by
    rw [HOPd.out]
    rcases o23 with h | h
    · left; rw [h]; rfl
    · right; rw [h]; exact ⟨rfl, rfl⟩
  have HKeep : Hid (∀ w' (bb : Below (w2.alloc (.cells #[.int .u8 d'.op, .int .i64 d'.A, .int .i64 d'.B, .slice d'.o d'.n d'.cap] 52)).drew.heap.size (w2.alloc (.cells #[.int .u8 d'.op, .int .i64 d'.A, .int .i64 d'.B, .slice d'.o d'.n d'.cap] 52)).drew w'), OkT w' d') := fun w' bb => (HOK.out.1.keep (w' := (w2.alloc (.cells #[.int .u8 d'.op, .int .i64 d'.A, .int .i64 d'.B, .slice d'.o d'.n d'.cap] 52)).drew) (by show w2.heap.size ≤ (w2.alloc _).heap.size; simp) fun j _ _ hj => Below.heap_alloc _ _ _ (some_lt hj)).keep bb.size fun j _ _ hj => bb.block j (some_lt hj)
  rcases he2 with e2 | ⟨e2, e3⟩
  all_goals
    clear o23
    go_wp2
    go_region_held3 (fun w' => w'.cell? ⟨w2.heap.size, 0, none⟩ = some (.int .u8 d'.op) ∧ w'.cell? ⟨w2.heap.size, 1, none⟩ = some (.int .i64 d'.A) ∧ w'.cell? ⟨w2.heap.size, 2, none⟩ = some (.int .i64 d'.B) ∧ w'.cell? ⟨w2.heap.size, 3, none⟩ = some (.slice d'.o d'.n d'.cap) ∧ w'.cell? ⟨w.heap.size, 0, none⟩ = some (.slice (some ⟨b, f, none⟩) n cap) ∧ w'.cell? ⟨w.heap.size, 1, none⟩ = some (.slice (some ⟨gE, 0, none⟩) n n) ∧ w'.cell? ⟨w.heap.size, 2, none⟩ = some (.slice (some ⟨gS, 0, none⟩) n n) ∧ w'.cell? ⟨gE, a, none⟩ = some (.int .i64 q))
      (first | exact HSA.out _ (Below.refl _ _) | exact HSA.out _ HB3.out | go_keep)
      (first
        | (go_at_call 38; refine (HBT.out _ _ (by first | rfl | omega | (rw [IntKind.wrap_i64]; omega)) HBA.out).mono ?_; rintro r w3 ⟨o3, k3, cap3, cs3, rfl, hown, hpl, hb3⟩; have HB3 : Hid (type_of% hb3) := hb3; have HRW : Hid (RowP w3 (New w w3) o3 k3 cap3 cs3) := own_row (w := w) hown (fun g h1 h2 => ⟨Nat.le_trans HBA.out.size h1, h2⟩) rfl; have HPL : Hid (PL w3 (New w w3) cs3 V di si) := hpl.new HBA.out.size; clear hown hpl hb3))
    all_goals
      go_wp2
      go_ret
      refine ⟨110, .agg #[.int .u8 d'.op, .int .i64 d'.A, .int .i64 d'.B, .slice d'.o d'.n d'.cap, .slice o3 k3 cap3], rfl, ?_, HBA.out.trans (HB3.out.mono HBA.out.size)⟩
      have hq := PL.block d' (HKeep.out _ HB3.out) HOK.out.2.1 o3 k3 cap3 cs3 V di si HRW.out HPL.out [] [] 0 0 PL.nil
      rw [Nat.add_zero, show max (1 + di) 0 = 1 + di by omega, HOK.out.2.2] at hq
      exact hq

end Go.Proofs.YtmbficofcmfmlaaDoor
