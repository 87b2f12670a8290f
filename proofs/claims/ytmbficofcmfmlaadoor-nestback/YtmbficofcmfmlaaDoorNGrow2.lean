/-
  What the program's own choiceAt does, and partAt with an if.
-/
import Derived.Test.YtmbficofcmfmlaaDoorNGrow1
namespace Go.Proofs.YtmbficofcmfmlaaDoor
open Go.RowKit

/-- Seven cells are written. -/
def put7 (w : World) (R : Nat) (v0 v1 v2 v3 v4 v5 v6 : Value) : World := ((((((w.setCell ⟨R, 0, none⟩ v0).setCell ⟨R, 1, none⟩ v1).setCell ⟨R, 2, none⟩ v2).setCell ⟨R, 3, none⟩ v3).setCell ⟨R, 4, none⟩ v4).setCell ⟨R, 5, none⟩ v5).setCell ⟨R, 6, none⟩ v6
theorem put7_at {w : World} {R : Nat} {c0 c1 c2 c3 c4 c5 c6 : Value} {t : TypeId} (h : w.heap[R]? = some (.cells #[c0, c1, c2, c3, c4, c5, c6] t (0, 0))) (v0 v1 v2 v3 v4 v5 v6 : Value) : (put7 w R v0 v1 v2 v3 v4 v5 v6).heap[R]? = some (.cells #[v0, v1, v2, v3, v4, v5, v6] t (0, 0)) := by
  simp [put7, World.setCell, Array.getElem?_modify, h]
theorem put7_off {w : World} {R j : Nat} (h : j ≠ R) (v0 v1 v2 v3 v4 v5 v6 : Value) : (put7 w R v0 v1 v2 v3 v4 v5 v6).heap[j]? = w.heap[j]? := by
  simp only [put7]
  rw [Below.heap_setCell _ _ _ _ h, Below.heap_setCell _ _ _ _ h, Below.heap_setCell _ _ _ _ h, Below.heap_setCell _ _ _ _ h, Below.heap_setCell _ _ _ _ h, Below.heap_setCell _ _ _ _ h, Below.heap_setCell _ _ _ _ h]
theorem put7_size (w : World) (R : Nat) (v0 v1 v2 v3 v4 v5 v6 : Value) : (put7 w R v0 v1 v2 v3 v4 v5 v6).heap.size = w.heap.size := by
  simp [put7, World.setCell]
theorem put7_below {B : Nat} {w0 w : World} {R : Nat} (h : Below B w0 w) (hR : B ≤ R) (v0 v1 v2 v3 v4 v5 v6 : Value) : Below B w0 (put7 w R v0 v1 v2 v3 v4 v5 v6) :=
  ((((((h.setCell (p := ⟨R, 0, none⟩) hR _).setCell (p := ⟨R, 1, none⟩) hR _).setCell (p := ⟨R, 2, none⟩) hR _).setCell (p := ⟨R, 3, none⟩) hR _).setCell (p := ⟨R, 4, none⟩) hR _).setCell (p := ⟨R, 5, none⟩) hR _).setCell (p := ⟨R, 6, none⟩) hR _
theorem all7 {w : World} {R : Nat} {c0 c1 c2 c3 c4 c5 c6 : Value} {t : TypeId} (h : w.heap[R]? = some (.cells #[c0, c1, c2, c3, c4, c5, c6] t (0, 0))) : (w.cell? ⟨R, 0, none⟩ = some c0 ∧ w.cell? ⟨R, 1, none⟩ = some c1 ∧ w.cell? ⟨R, 2, none⟩ = some c2 ∧ w.cell? ⟨R, 3, none⟩ = some c3 ∧ w.cell? ⟨R, 4, none⟩ = some c4 ∧ w.cell? ⟨R, 5, none⟩ = some c5 ∧ w.cell? ⟨R, 6, none⟩ = some c6) ∧ (w.frozen? ⟨R, 0, none⟩ = false ∧ w.frozen? ⟨R, 1, none⟩ = false ∧ w.frozen? ⟨R, 2, none⟩ = false ∧ w.frozen? ⟨R, 3, none⟩ = false ∧ w.frozen? ⟨R, 4, none⟩ = false ∧ w.frozen? ⟨R, 5, none⟩ = false ∧ w.frozen? ⟨R, 6, none⟩ = false) := by
  simp [World.cell?, World.frozen?, h]
theorem PL.move {w3 wf WA w : World} {R : Nat} {cur : Array Value} {T : TypeId} {fr : Nat × Nat} {cs : List Value} {L : List V4} {dp sz : Nat} (h : PL w3 (New WA w3) cs L dp sz) (hs : w3.heap.size ≤ wf.heap.size) (hb : ∀ j, j < w3.heap.size → j ≠ R → wf.heap[j]? = w3.heap[j]?) (hR : w3.heap[R]? = some (.cells cur T fr)) (hT : T ≠ 2) (hRA : R < WA.heap.size) (hw : w.heap.size ≤ WA.heap.size) : PL wf (New w wf) cs L dp sz := by
  refine h.keep hs (fun j cu f hj => hb j (some_lt hj) fun e => ?_) (fun g hg hl => ⟨⟨Nat.le_trans hw hg.1, Nat.lt_of_lt_of_le hg.2 hs⟩, hb g hl (by have := hg.1; omega)⟩)
  rw [e, hR] at hj
  simp only [Option.some.injEq, Obj.cells.injEq] at hj
  exact hT hj.2.1
theorem RowP.move {w3 wf WA w : World} {R : Nat} {o : Option Addr} {k cap : Nat} {cs : List Value} (h : RowP w3 (New WA w3) o k cap cs) (hs : w3.heap.size ≤ wf.heap.size) (hb : ∀ j, j < w3.heap.size → j ≠ R → wf.heap[j]? = w3.heap[j]?) (hRA : R < WA.heap.size) (hw : w.heap.size ≤ WA.heap.size) : RowP wf (New w wf) o k cap cs :=
  h.keep fun g hg hl => ⟨⟨Nat.le_trans hw hg.1, Nat.lt_of_lt_of_le hg.2 hs⟩, hb g hl (by have := hg.1; omega)⟩
theorem OkT.under {w w' : World} {d : InsD} (h : OkT w d) (b : Below w.heap.size w w') : OkT w' d := h.keep b.size fun j _ _ hj => b.block j (some_lt hj)
/-- What choiceAt answers. -/
def CP (w : World) (d : InsD) (els : Bool) (V1 : List V4) (d1 s1 : Nat) (V2 : List V4) (d2 s2 : Nat) (r : Ending) (w' : World) : Prop := ∃ (o1 : Option Addr) (k1 cap1 : Nat) (c1 : List Value) (o2 : Option Addr) (k2 cap2 : Nat) (c2 : List Value), r = .returned (.agg #[.int .u8 d.op, .int .i64 d.A, .int .i64 d.B, .slice d.o d.n d.cap, .slice o1 k1 cap1, .bool els, .slice o2 k2 cap2]) ∧ RowP w' (New w w') o1 k1 cap1 c1 ∧ PL w' (New w w') c1 V1 d1 s1 ∧ RowP w' (New w w') o2 k2 cap2 c2 ∧ PL w' (New w w') c2 V2 d2 s2 ∧ (els = false → c2 = []) ∧ OkT w' d ∧ Below w.heap.size w w'
theorem choice_start (b f cap gE gS n : Nat) (d : InsD) (w w' : World) (bb : Below (((w.alloc (.cells #[.slice (some ⟨b, f, none⟩) n cap, .slice (some ⟨gE, 0, none⟩) n n, .slice (some ⟨gS, 0, none⟩) n n] 76)).alloc (.cells #[.int .u8 d.op, .int .i64 d.A, .int .i64 d.B, .slice d.o d.n d.cap] 52)).alloc (.cells #[.int .u8 0, .int .i64 0, .int .i64 0, .slice none 0 0, .slice none 0 0, .bool false, .slice none 0 0] 112)).heap.size (((w.alloc (.cells #[.slice (some ⟨b, f, none⟩) n cap, .slice (some ⟨gE, 0, none⟩) n n, .slice (some ⟨gS, 0, none⟩) n n] 76)).alloc (.cells #[.int .u8 d.op, .int .i64 d.A, .int .i64 d.B, .slice d.o d.n d.cap] 52)).alloc (.cells #[.int .u8 0, .int .i64 0, .int .i64 0, .slice none 0 0, .slice none 0 0, .bool false, .slice none 0 0] 112)) w') : (w'.cell? ⟨w.heap.size, 0, none⟩ = some (.slice (some ⟨b, f, none⟩) n cap) ∧ w'.cell? ⟨w.heap.size, 1, none⟩ = some (.slice (some ⟨gE, 0, none⟩) n n) ∧ w'.cell? ⟨w.heap.size, 2, none⟩ = some (.slice (some ⟨gS, 0, none⟩) n n) ∧ w'.cell? ⟨w.heap.size + 1, 0, none⟩ = some (.int .u8 d.op) ∧ w'.cell? ⟨w.heap.size + 1, 1, none⟩ = some (.int .i64 d.A) ∧ w'.cell? ⟨w.heap.size + 1, 2, none⟩ = some (.int .i64 d.B) ∧ w'.cell? ⟨w.heap.size + 1, 3, none⟩ = some (.slice d.o d.n d.cap)) ∧ w'.heap[w.heap.size + 1 + 1]? = some (.cells #[.int .u8 0, .int .i64 0, .int .i64 0, .slice none 0 0, .slice none 0 0, .bool false, .slice none 0 0] 112 (0, 0)) := by
  have s0 : (w.alloc (.cells #[.slice (some ⟨b, f, none⟩) n cap, .slice (some ⟨gE, 0, none⟩) n n, .slice (some ⟨gS, 0, none⟩) n n] 76)).heap.size = w.heap.size + 1 := World.size_alloc _ _
  have s1 : ((w.alloc (.cells #[.slice (some ⟨b, f, none⟩) n cap, .slice (some ⟨gE, 0, none⟩) n n, .slice (some ⟨gS, 0, none⟩) n n] 76)).alloc (.cells #[.int .u8 d.op, .int .i64 d.A, .int .i64 d.B, .slice d.o d.n d.cap] 52)).heap.size = w.heap.size + 1 + 1 := by rw [World.size_alloc, s0]
  have s2 : (((w.alloc (.cells #[.slice (some ⟨b, f, none⟩) n cap, .slice (some ⟨gE, 0, none⟩) n n, .slice (some ⟨gS, 0, none⟩) n n] 76)).alloc (.cells #[.int .u8 d.op, .int .i64 d.A, .int .i64 d.B, .slice d.o d.n d.cap] 52)).alloc (.cells #[.int .u8 0, .int .i64 0, .int .i64 0, .slice none 0 0, .slice none 0 0, .bool false, .slice none 0 0] 112)).heap.size = w.heap.size + 1 + 1 + 1 := by rw [World.size_alloc, s1]
  have g0 : w'.heap[w.heap.size]? = some (.cells #[.slice (some ⟨b, f, none⟩) n cap, .slice (some ⟨gE, 0, none⟩) n n, .slice (some ⟨gS, 0, none⟩) n n] 76 (0, 0)) := by
    rw [bb.block _ (by omega), Below.heap_alloc _ _ _ (by omega), Below.heap_alloc _ _ _ (by omega)]
    exact heap_alloc_new w _
  have g1 : w'.heap[w.heap.size + 1]? = some (.cells #[.int .u8 d.op, .int .i64 d.A, .int .i64 d.B, .slice d.o d.n d.cap] 52 (0, 0)) := by
    rw [bb.block _ (by omega), Below.heap_alloc _ _ _ (by omega)]
    have := heap_alloc_new (w.alloc (.cells #[.slice (some ⟨b, f, none⟩) n cap, .slice (some ⟨gE, 0, none⟩) n n, .slice (some ⟨gS, 0, none⟩) n n] 76)) (.cells #[.int .u8 d.op, .int .i64 d.A, .int .i64 d.B, .slice d.o d.n d.cap] 52)
    rw [s0] at this
    exact this
  have g2 : w'.heap[w.heap.size + 1 + 1]? = some (.cells #[.int .u8 0, .int .i64 0, .int .i64 0, .slice none 0 0, .slice none 0 0, .bool false, .slice none 0 0] 112 (0, 0)) := by
    rw [bb.block _ (by omega)]
    have := heap_alloc_new ((w.alloc (.cells #[.slice (some ⟨b, f, none⟩) n cap, .slice (some ⟨gE, 0, none⟩) n n, .slice (some ⟨gS, 0, none⟩) n n] 76)).alloc (.cells #[.int .u8 d.op, .int .i64 d.A, .int .i64 d.B, .slice d.o d.n d.cap] 52)) (.cells #[.int .u8 0, .int .i64 0, .int .i64 0, .slice none 0 0, .slice none 0 0, .bool false, .slice none 0 0] 112)
    rw [s1] at this
    exact this
  obtain ⟨a0, a1, a2⟩ := agg3 g0
  have x1 : XS w' (w.heap.size + 1) (.int .u8 d.op) (.int .i64 d.A) (.int .i64 d.B) (.slice d.o d.n d.cap) := g1
  obtain ⟨b0, b1, b2, b3⟩ := x1.cell
  exact ⟨⟨a0, a1, a2, b0, b1, b2, b3⟩, g2⟩
set_option maxHeartbeats 8000000 in
set_option maxRecDepth 1000000 in
theorem choice_no (b f cap gE gS n a q : Nat) (d : InsD) (V : List V4) (di si : Nat) (w : World) (hew : gE < w.heap.size) (hsw : gS < w.heap.size) (ha : a < n) (hn : n ≤ 200) (hok : OkT w d) (he : w.cell? ⟨gE, a, none⟩ = some (.int .i64 q)) (ht : w.cell? ⟨gS, a, none⟩ = some (.int .i64 (-1)))
    (HBT : Hid (∀ (x : Int) w', x = (a : Int) + 1 → Below w.heap.size w w' → Calls Tryd.prog 38 #[.agg #[.slice (some ⟨b, f, none⟩) n cap, .slice (some ⟨gE, 0, none⟩) n n, .slice (some ⟨gS, 0, none⟩) n n], .int .i64 x, .int .i64 q] w' fun r w'' => BP w' V di si r w'')) :
    Calls Tryd.prog 87 #[.agg #[.slice (some ⟨b, f, none⟩) n cap, .slice (some ⟨gE, 0, none⟩) n n, .slice (some ⟨gS, 0, none⟩) n n], .int .i64 a, .agg #[.int .u8 d.op, .int .i64 d.A, .int .i64 d.B, .slice d.o d.n d.cap]] w fun r w' => CP w d false V di si [] 0 0 r w' := by
  have hai0 : (0 : Int) ≤ (a : Int) := by omega
  have nR1 : ¬ (w.heap.size = w.heap.size + 1 + 1) := by omega
  have nR2 : ¬ (w.heap.size + 1 + 1 = w.heap.size) := by omega
  have hai1 : (a : Int) < (n : Int) := by omega
  have HST : Hid (type_of% (choice_start b f cap gE gS n d w)) := choice_start b f cap gE gS n d w
  have b0 : Below w.heap.size w (((w.alloc (.cells #[.slice (some ⟨b, f, none⟩) n cap, .slice (some ⟨gE, 0, none⟩) n n, .slice (some ⟨gS, 0, none⟩) n n] 76)).alloc (.cells #[.int .u8 d.op, .int .i64 d.A, .int .i64 d.B, .slice d.o d.n d.cap] 52)).alloc (.cells #[.int .u8 0, .int .i64 0, .int .i64 0, .slice none 0 0, .slice none 0 0, .bool false, .slice none 0 0] 112)) := (((Below.refl _ _).alloc (Nat.le_refl _) _).alloc (by simp) _).alloc (by simp; omega) _
  have HB0 : Hid (type_of% b0) := b0
  have he0 : (((w.alloc (.cells #[.slice (some ⟨b, f, none⟩) n cap, .slice (some ⟨gE, 0, none⟩) n n, .slice (some ⟨gS, 0, none⟩) n n] 76)).alloc (.cells #[.int .u8 d.op, .int .i64 d.A, .int .i64 d.B, .slice d.o d.n d.cap] 52)).alloc (.cells #[.int .u8 0, .int .i64 0, .int .i64 0, .slice none 0 0, .slice none 0 0, .bool false, .slice none 0 0] 112)).cell? ⟨gE, a, none⟩ = some (.int .i64 q) := by rw [b0.cell (p := ⟨gE, a, none⟩) hew]; exact he
  have ht0 : (((w.alloc (.cells #[.slice (some ⟨b, f, none⟩) n cap, .slice (some ⟨gE, 0, none⟩) n n, .slice (some ⟨gS, 0, none⟩) n n] 76)).alloc (.cells #[.int .u8 d.op, .int .i64 d.A, .int .i64 d.B, .slice d.o d.n d.cap] 52)).alloc (.cells #[.int .u8 0, .int .i64 0, .int .i64 0, .slice none 0 0, .slice none 0 0, .bool false, .slice none 0 0] 112)).cell? ⟨gS, a, none⟩ = some (.int .i64 (-1)) := by rw [b0.cell (p := ⟨gS, a, none⟩) hsw]; exact ht
  have hsz0 : (((w.alloc (.cells #[.slice (some ⟨b, f, none⟩) n cap, .slice (some ⟨gE, 0, none⟩) n n, .slice (some ⟨gS, 0, none⟩) n n] 76)).alloc (.cells #[.int .u8 d.op, .int .i64 d.A, .int .i64 d.B, .slice d.o d.n d.cap] 52)).alloc (.cells #[.int .u8 0, .int .i64 0, .int .i64 0, .slice none 0 0, .slice none 0 0, .bool false, .slice none 0 0] 112)).heap.size = w.heap.size + 3 := by simp
  have HOK : Hid (OkT (((w.alloc (.cells #[.slice (some ⟨b, f, none⟩) n cap, .slice (some ⟨gE, 0, none⟩) n n, .slice (some ⟨gS, 0, none⟩) n n] 76)).alloc (.cells #[.int .u8 d.op, .int .i64 d.A, .int .i64 d.B, .slice d.o d.n d.cap] 52)).alloc (.cells #[.int .u8 0, .int .i64 0, .int .i64 0, .slice none 0 0, .slice none 0 0, .bool false, .slice none 0 0] 112)) d) := hok.under b0
  clear b0 he ht hok
  go_enter Tryd.func87, Tryd.ntmps87
  go_wp2
  generalize ((w.alloc (.cells #[.slice (some ⟨b, f, none⟩) n cap, .slice (some ⟨gE, 0, none⟩) n n, .slice (some ⟨gS, 0, none⟩) n n] 76)).alloc (.cells #[.int .u8 d.op, .int .i64 d.A, .int .i64 d.B, .slice d.o d.n d.cap] 52)).alloc (.cells #[.int .u8 0, .int .i64 0, .int .i64 0, .slice none 0 0, .slice none 0 0, .bool false, .slice none 0 0] 112) = W at HST HB0 he0 ht0 hsz0 HOK ⊢
  obtain ⟨⟨a0, a1, a2, h0, h1, h2, h3⟩, hr⟩ := HST.out _ (Below.refl _ _)
  have HR0 : Hid (type_of% hr) := hr
  clear hr
  go_region_held3 (fun w' => w'.cell? ⟨w.heap.size, 0, none⟩ = some (.slice (some ⟨b, f, none⟩) n cap) ∧ w'.cell? ⟨w.heap.size, 1, none⟩ = some (.slice (some ⟨gE, 0, none⟩) n n) ∧ w'.cell? ⟨w.heap.size, 2, none⟩ = some (.slice (some ⟨gS, 0, none⟩) n n) ∧ w'.cell? ⟨gE, a, none⟩ = some (.int .i64 q) ∧ w'.cell? ⟨gS, a, none⟩ = some (.int .i64 (-1))) (go_keep) (fail)
  all_goals
    go_wp2
    have HBD : Hid (Below W.heap.size W W.drew) := (Below.refl _ _).drew
    have HBW : Hid (Below w.heap.size w W.drew.drew) := HB0.out.drew.drew
    have HBE : Hid (Below W.heap.size W W.drew.drew) := (Below.refl _ _).drew.drew
    have HS0 : Hid (type_of% (HST.out _ HBE.out).1) := (HST.out _ HBE.out).1
    go_region_held3 (fun w' => w'.cell? ⟨w.heap.size, 0, none⟩ = some (.slice (some ⟨b, f, none⟩) n cap) ∧ w'.cell? ⟨w.heap.size, 1, none⟩ = some (.slice (some ⟨gE, 0, none⟩) n n) ∧ w'.cell? ⟨w.heap.size, 2, none⟩ = some (.slice (some ⟨gS, 0, none⟩) n n) ∧ w'.cell? ⟨w.heap.size + 1, 0, none⟩ = some (.int .u8 d.op) ∧ w'.cell? ⟨w.heap.size + 1, 1, none⟩ = some (.int .i64 d.A) ∧ w'.cell? ⟨w.heap.size + 1, 2, none⟩ = some (.int .i64 d.B) ∧ w'.cell? ⟨w.heap.size + 1, 3, none⟩ = some (.slice d.o d.n d.cap)) (first | with_reducible exact HS0.out | with_reducible exact HS3.out | go_keep)
      (first
        | (go_at_call 38; refine (HBT.out _ _ (by first | rfl | omega | (rw [IntKind.wrap_i64]; omega)) HBW.out).mono ?_; rintro r w3 ⟨o3, k3, cap3, cs3, rfl, hown, hpl, hb3⟩; have HB3 : Hid (Below W.heap.size W w3) := HBE.out.trans (hb3.mono (Nat.le_refl _)); have HRW : Hid (RowP w3 (New W w3) o3 k3 cap3 cs3) := own_row (w := w) hown (fun g h1 h2 => ⟨h1, h2⟩) rfl; have HPL : Hid (PL w3 (New W w3) cs3 V di si) := hpl.new (Nat.le_refl _); have HR3 : Hid (w3.heap[w.heap.size + 1 + 1]? = some (.cells #[.int .u8 0, .int .i64 0, .int .i64 0, .slice none 0 0, .slice none 0 0, .bool false, .slice none 0 0] 112 (0, 0))) := (HST.out _ HB3.out).2; obtain ⟨⟨z0, z1, z2, z3, z4, z5, z6⟩, f0, f1, f2, f3, f4, f5, f6⟩ := all7 HR3.out; have HS3 : Hid (type_of% (HST.out _ HB3.out).1) := (HST.out _ HB3.out).1; clear hown hpl hb3))
    all_goals
      go_wp2
      obtain ⟨⟨q0, q1, q2, q3, q4, q5, q6⟩, _⟩ := all7 (put7_at HR3.out (.int .u8 d.op) (.int .i64 d.A) (.int .i64 d.B) (.slice d.o d.n d.cap) (.slice o3 k3 cap3) (.bool false) (.slice none 0 0))
      unfold put7 at q0 q1 q2 q3 q4 q5 q6
      refine bodyPost_ret (v := .agg #[(.int .u8 d.op), (.int .i64 d.A), (.int .i64 d.B), (.slice d.o d.n d.cap), (.slice o3 k3 cap3), (.bool false), (.slice none 0 0)]) (by simp [results, Tryd.results87, go_sem, q0, q1, q2, q3, q4, q5, q6]) rfl ?_
      have hoff := fun j (_ : j < w3.heap.size) (h : j ≠ w.heap.size + 1 + 1) => put7_off (w := w3) h (.int .u8 d.op) (.int .i64 d.A) (.int .i64 d.B) (.slice d.o d.n d.cap) (.slice o3 k3 cap3) (.bool false) (.slice none 0 0)
      have hsz := put7_size w3 (w.heap.size + 1 + 1) (.int .u8 d.op) (.int .i64 d.A) (.int .i64 d.B) (.slice d.o d.n d.cap) (.slice o3 k3 cap3) (.bool false) (.slice none 0 0)
      have hwW : w.heap.size ≤ W.heap.size := HB0.out.size
      refine ⟨o3, k3, cap3, cs3, none, 0, 0, [], rfl, HRW.out.move (Nat.le_of_eq hsz.symm) hoff (by omega) hwW, HPL.out.move (Nat.le_of_eq hsz.symm) hoff HR3.out (by decide) (by omega) hwW, ⟨rfl, Nat.le_refl _, by unfold maxLen; omega, Or.inl rfl⟩, PL.nil, fun _ => rfl, ?_, put7_below (HB0.out.trans (HB3.out.mono hwW)) (by omega) _ _ _ _ _ _ _⟩
      refine (HOK.out.under HB3.out).keep (Nat.le_of_eq hsz.symm) fun j cur f hj => hoff j (some_lt hj) fun e => ?_
      rw [e, HR3.out] at hj
      simp at hj

end Go.Proofs.YtmbficofcmfmlaaDoor
