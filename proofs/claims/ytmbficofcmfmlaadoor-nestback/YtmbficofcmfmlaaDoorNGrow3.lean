/-
  What the program's own choiceAt does with an if that has an else.
-/
import Derived.Test.YtmbficofcmfmlaaDoorNGrow2
namespace Go.Proofs.YtmbficofcmfmlaaDoor
open Go.RowKit

def put5 (w : World) (R : Nat) (v0 v1 v2 v3 v4 : Value) : World := ((((w.setCell ⟨R, 0, none⟩ v0).setCell ⟨R, 1, none⟩ v1).setCell ⟨R, 2, none⟩ v2).setCell ⟨R, 3, none⟩ v3).setCell ⟨R, 4, none⟩ v4
theorem all5 {w : World} {R : Nat} {c0 c1 c2 c3 c4 : Value} {t : TypeId} (h : w.heap[R]? = some (.cells #[c0, c1, c2, c3, c4] t (0, 0))) : (w.cell? ⟨R, 0, none⟩ = some c0 ∧ w.cell? ⟨R, 1, none⟩ = some c1 ∧ w.cell? ⟨R, 2, none⟩ = some c2 ∧ w.cell? ⟨R, 3, none⟩ = some c3 ∧ w.cell? ⟨R, 4, none⟩ = some c4) ∧ (w.frozen? ⟨R, 0, none⟩ = false ∧ w.frozen? ⟨R, 1, none⟩ = false ∧ w.frozen? ⟨R, 2, none⟩ = false ∧ w.frozen? ⟨R, 3, none⟩ = false ∧ w.frozen? ⟨R, 4, none⟩ = false) := by
  simp [World.cell?, World.frozen?, h]
theorem put5_at {w : World} {R : Nat} {c0 c1 c2 c3 c4 : Value} {t : TypeId} (h : w.heap[R]? = some (.cells #[c0, c1, c2, c3, c4] t (0, 0))) (v0 v1 v2 v3 v4 : Value) : (put5 w R v0 v1 v2 v3 v4).heap[R]? = some (.cells #[v0, v1, v2, v3, v4] t (0, 0)) := by
  simp [put5, World.setCell, Array.getElem?_modify, h]
theorem put5_off {w : World} {R j : Nat} (h : j ≠ R) (v0 v1 v2 v3 v4 : Value) : (put5 w R v0 v1 v2 v3 v4).heap[j]? = w.heap[j]? := by
  simp only [put5]
  rw [Below.heap_setCell _ _ _ _ h, Below.heap_setCell _ _ _ _ h, Below.heap_setCell _ _ _ _ h, Below.heap_setCell _ _ _ _ h, Below.heap_setCell _ _ _ _ h]
theorem put5_size (w : World) (R : Nat) (v0 v1 v2 v3 v4 : Value) : (put5 w R v0 v1 v2 v3 v4).heap.size = w.heap.size := by
  simp [put5, World.setCell]
theorem put5_below {B : Nat} {w0 w : World} {R : Nat} (h : Below B w0 w) (hR : B ≤ R) (v0 v1 v2 v3 v4 : Value) : Below B w0 (put5 w R v0 v1 v2 v3 v4) :=
  ((((h.setCell (p := ⟨R, 0, none⟩) hR _).setCell (p := ⟨R, 1, none⟩) hR _).setCell (p := ⟨R, 2, none⟩) hR _).setCell (p := ⟨R, 3, none⟩) hR _).setCell (p := ⟨R, 4, none⟩) hR _
set_option maxHeartbeats 16000000 in
set_option maxRecDepth 1000000 in
theorem choice_yes (b f cap gE gS n a t q : Nat) (d : InsD) (V1 : List V4) (d1 s1 : Nat) (V2 : List V4) (d2 s2 : Nat) (w : World) (hew : gE < w.heap.size) (hsw : gS < w.heap.size) (ha : a < n) (htn : t < n) (hn : n ≤ 200) (hok : OkT w d) (he : w.cell? ⟨gE, a, none⟩ = some (.int .i64 q)) (ht : w.cell? ⟨gS, a, none⟩ = some (.int .i64 t))
    (HBT : Hid (∀ (x : Int) w', x = (a : Int) + 1 → Below w.heap.size w w' → Calls Tryd.prog 38 #[.agg #[.slice (some ⟨b, f, none⟩) n cap, .slice (some ⟨gE, 0, none⟩) n n, .slice (some ⟨gS, 0, none⟩) n n], .int .i64 x, .int .i64 t] w' fun r w'' => BP w' V1 d1 s1 r w''))
    (HBU : Hid (∀ (x : Int) w', x = (t : Int) + 1 → Below w.heap.size w w' → Calls Tryd.prog 38 #[.agg #[.slice (some ⟨b, f, none⟩) n cap, .slice (some ⟨gE, 0, none⟩) n n, .slice (some ⟨gS, 0, none⟩) n n], .int .i64 x, .int .i64 q] w' fun r w'' => BP w' V2 d2 s2 r w'')) :
    Calls Tryd.prog 87 #[.agg #[.slice (some ⟨b, f, none⟩) n cap, .slice (some ⟨gE, 0, none⟩) n n, .slice (some ⟨gS, 0, none⟩) n n], .int .i64 a, .agg #[.int .u8 d.op, .int .i64 d.A, .int .i64 d.B, .slice d.o d.n d.cap]] w fun r w' => CP w d true V1 d1 s1 V2 d2 s2 r w' := by
  have hai0 : (0 : Int) ≤ (a : Int) := by omega
  have nR1 : ¬ (w.heap.size = w.heap.size + 1 + 1) := by omega
  have nR2 : ¬ (w.heap.size + 1 + 1 = w.heap.size) := by omega
  have hai1 : (a : Int) < (n : Int) := by omega
  have hti : ((t : Int) == -1) = false := by rw [beq_eq_false_iff_ne]; omega
  have HST : Hid (type_of% (choice_start b f cap gE gS n d w)) := choice_start b f cap gE gS n d w
  have b0 : Below w.heap.size w (((w.alloc (.cells #[.slice (some ⟨b, f, none⟩) n cap, .slice (some ⟨gE, 0, none⟩) n n, .slice (some ⟨gS, 0, none⟩) n n] 76)).alloc (.cells #[.int .u8 d.op, .int .i64 d.A, .int .i64 d.B, .slice d.o d.n d.cap] 52)).alloc (.cells #[.int .u8 0, .int .i64 0, .int .i64 0, .slice none 0 0, .slice none 0 0, .bool false, .slice none 0 0] 112)) := (((Below.refl _ _).alloc (Nat.le_refl _) _).alloc (by simp) _).alloc (by simp; omega) _
  have HB0 : Hid (type_of% b0) := b0
  have he0 : (((w.alloc (.cells #[.slice (some ⟨b, f, none⟩) n cap, .slice (some ⟨gE, 0, none⟩) n n, .slice (some ⟨gS, 0, none⟩) n n] 76)).alloc (.cells #[.int .u8 d.op, .int .i64 d.A, .int .i64 d.B, .slice d.o d.n d.cap] 52)).alloc (.cells #[.int .u8 0, .int .i64 0, .int .i64 0, .slice none 0 0, .slice none 0 0, .bool false, .slice none 0 0] 112)).cell? ⟨gE, a, none⟩ = some (.int .i64 q) := by rw [b0.cell (p := ⟨gE, a, none⟩) hew]; exact he
  have ht0 : (((w.alloc (.cells #[.slice (some ⟨b, f, none⟩) n cap, .slice (some ⟨gE, 0, none⟩) n n, .slice (some ⟨gS, 0, none⟩) n n] 76)).alloc (.cells #[.int .u8 d.op, .int .i64 d.A, .int .i64 d.B, .slice d.o d.n d.cap] 52)).alloc (.cells #[.int .u8 0, .int .i64 0, .int .i64 0, .slice none 0 0, .slice none 0 0, .bool false, .slice none 0 0] 112)).cell? ⟨gS, a, none⟩ = some (.int .i64 t) := by rw [b0.cell (p := ⟨gS, a, none⟩) hsw]; exact ht
  have HSZ0 : Hid ((((w.alloc (.cells #[.slice (some ⟨b, f, none⟩) n cap, .slice (some ⟨gE, 0, none⟩) n n, .slice (some ⟨gS, 0, none⟩) n n] 76)).alloc (.cells #[.int .u8 d.op, .int .i64 d.A, .int .i64 d.B, .slice d.o d.n d.cap] 52)).alloc (.cells #[.int .u8 0, .int .i64 0, .int .i64 0, .slice none 0 0, .slice none 0 0, .bool false, .slice none 0 0] 112)).heap.size = w.heap.size + 3) := by unfold Hid; simp
  have HOK : Hid (OkT (((w.alloc (.cells #[.slice (some ⟨b, f, none⟩) n cap, .slice (some ⟨gE, 0, none⟩) n n, .slice (some ⟨gS, 0, none⟩) n n] 76)).alloc (.cells #[.int .u8 d.op, .int .i64 d.A, .int .i64 d.B, .slice d.o d.n d.cap] 52)).alloc (.cells #[.int .u8 0, .int .i64 0, .int .i64 0, .slice none 0 0, .slice none 0 0, .bool false, .slice none 0 0] 112)) d) := hok.under b0
  clear b0 he ht hok
  go_enter Tryd.func87, Tryd.ntmps87
  go_wp2
  generalize ((w.alloc (.cells #[.slice (some ⟨b, f, none⟩) n cap, .slice (some ⟨gE, 0, none⟩) n n, .slice (some ⟨gS, 0, none⟩) n n] 76)).alloc (.cells #[.int .u8 d.op, .int .i64 d.A, .int .i64 d.B, .slice d.o d.n d.cap] 52)).alloc (.cells #[.int .u8 0, .int .i64 0, .int .i64 0, .slice none 0 0, .slice none 0 0, .bool false, .slice none 0 0] 112) = W at HST HB0 he0 ht0 HSZ0 HOK ⊢
  obtain ⟨⟨a0, a1, a2, h0, h1, h2, h3⟩, hr⟩ := HST.out _ (Below.refl _ _)
  have HR0 : Hid (type_of% hr) := hr
  clear hr
  go_region_held3 (fun w' => w'.cell? ⟨w.heap.size, 0, none⟩ = some (.slice (some ⟨b, f, none⟩) n cap) ∧ w'.cell? ⟨w.heap.size, 1, none⟩ = some (.slice (some ⟨gE, 0, none⟩) n n) ∧ w'.cell? ⟨w.heap.size, 2, none⟩ = some (.slice (some ⟨gS, 0, none⟩) n n) ∧ w'.cell? ⟨gE, a, none⟩ = some (.int .i64 q) ∧ w'.cell? ⟨gS, a, none⟩ = some (.int .i64 t)) (go_keep) (fail)
  all_goals
    go_wp2
    have HS0 : Hid (type_of% (HST.out _ ((Below.refl _ W).drew.drew)).1) := (HST.out _ ((Below.refl _ W).drew.drew)).1
    have HSF : Hid (type_of% (HST.out _ (((Below.refl _ W).alloc (Nat.le_refl _) (.cells #[.int .u8 0, .int .i64 0, .int .i64 0, .slice none 0 0, .slice none 0 0] 110)).drew.drew)).1) := (HST.out _ (((Below.refl _ W).alloc (Nat.le_refl _) (.cells #[.int .u8 0, .int .i64 0, .int .i64 0, .slice none 0 0, .slice none 0 0] 110)).drew.drew)).1
    obtain ⟨WA, hWA⟩ : ∃ X, W.drew.drew = X := ⟨_, rfl⟩
    obtain ⟨WB, hWB⟩ : ∃ X, (W.alloc (.cells #[.int .u8 0, .int .i64 0, .int .i64 0, .slice none 0 0, .slice none 0 0] 110)).drew.drew = X := ⟨_, rfl⟩
    have HBW : Hid (Below w.heap.size w WA) := hWA ▸ HB0.out.drew.drew
    have HBE : Hid (Below W.heap.size W WA) := hWA ▸ (Below.refl _ _).drew.drew
    have HBX : Hid (Below w.heap.size w WB) := hWB ▸ (HB0.out.alloc HB0.out.size _).drew.drew
    have HBF : Hid (Below W.heap.size W WB) := hWB ▸ ((Below.refl _ _).alloc (Nat.le_refl _) _).drew.drew
    have HZB : Hid (WB.heap[W.heap.size]? = some (.cells #[.int .u8 0, .int .i64 0, .int .i64 0, .slice none 0 0, .slice none 0 0] 110 (0, 0))) := hWB ▸ heap_alloc_new W _
    have HWA : Hid (type_of% hWA) := hWA
    have HWB : Hid (type_of% hWB) := hWB
    clear hWA hWB
    go_region_held3 (fun w' => w'.cell? ⟨w.heap.size, 0, none⟩ = some (.slice (some ⟨b, f, none⟩) n cap) ∧ w'.cell? ⟨w.heap.size, 1, none⟩ = some (.slice (some ⟨gE, 0, none⟩) n n) ∧ w'.cell? ⟨w.heap.size, 2, none⟩ = some (.slice (some ⟨gS, 0, none⟩) n n) ∧ w'.cell? ⟨w.heap.size + 1, 0, none⟩ = some (.int .u8 d.op) ∧ w'.cell? ⟨w.heap.size + 1, 1, none⟩ = some (.int .i64 d.A) ∧ w'.cell? ⟨w.heap.size + 1, 2, none⟩ = some (.int .i64 d.B) ∧ w'.cell? ⟨w.heap.size + 1, 3, none⟩ = some (.slice d.o d.n d.cap)) (first | with_reducible exact HS0.out | with_reducible exact HS3.out | with_reducible exact HSF.out | with_reducible exact HS4.out | with_reducible exact HS5.out | with_reducible exact HS6.out | go_keep)
      (first
        | (go_at_call 38; rw [HWA.out]; refine (HBT.out _ WA (by first | rfl | omega | (rw [IntKind.wrap_i64]; omega)) HBW.out).mono ?_; rintro r w3 ⟨o3, k3, cap3, cs3, rfl, hown, hpl, hb3⟩; have HC3 : Hid (Below WA.heap.size WA w3) := hb3; have HB3 : Hid (Below W.heap.size W w3) := HBE.out.trans (hb3.mono HBE.out.size); have HRW : Hid (RowP w3 (New WA w3) o3 k3 cap3 cs3) := own_row (w := w) hown (fun g h1 h2 => ⟨h1, h2⟩) rfl; have HPL : Hid (PL w3 (New WA w3) cs3 V1 d1 s1) := hpl; have HS3 : Hid (type_of% (HST.out _ HB3.out).1) := (HST.out _ HB3.out).1; have HS4 : Hid (type_of% (HST.out (w3.alloc (.cells #[.int .u8 0, .int .i64 0, .int .i64 0, .slice none 0 0, .slice none 0 0] 110)) (HB3.out.alloc HB3.out.size _)).1) := (HST.out (w3.alloc (.cells #[.int .u8 0, .int .i64 0, .int .i64 0, .slice none 0 0, .slice none 0 0] 110)) (HB3.out.alloc HB3.out.size _)).1; have HS5 : Hid (type_of% (HST.out (w3.alloc (.cells #[.int .u8 d.op, .int .i64 d.A, .int .i64 d.B, .slice d.o d.n d.cap, .slice o3 k3 cap3] 110)) (HB3.out.alloc HB3.out.size _)).1) := (HST.out (w3.alloc (.cells #[.int .u8 d.op, .int .i64 d.A, .int .i64 d.B, .slice d.o d.n d.cap, .slice o3 k3 cap3] 110)) (HB3.out.alloc HB3.out.size _)).1; have HAFTER : Hid True := trivial; clear hown hpl hb3)
        | (go_at_call 38; rw [HWB.out]; refine (HBT.out _ WB (by first | rfl | omega | (rw [IntKind.wrap_i64]; omega)) HBX.out).mono ?_; rintro r w3 ⟨o3, k3, cap3, cs3, rfl, hown, hpl, hb3⟩; have HC3 : Hid (Below WB.heap.size WB w3) := hb3; have HB3 : Hid (Below W.heap.size W w3) := HBF.out.trans (hb3.mono HBF.out.size); have HRW : Hid (RowP w3 (New WB w3) o3 k3 cap3 cs3) := own_row (w := w) hown (fun g h1 h2 => ⟨h1, h2⟩) rfl; have HPL : Hid (PL w3 (New WB w3) cs3 V1 d1 s1) := hpl; have HS3 : Hid (type_of% (HST.out _ HB3.out).1) := (HST.out _ HB3.out).1; have HX3 : Hid (w3.heap[W.heap.size]? = some (.cells #[.int .u8 0, .int .i64 0, .int .i64 0, .slice none 0 0, .slice none 0 0] 110 (0, 0))) := (HC3.out.block _ (some_lt HZB.out)).trans HZB.out; obtain ⟨⟨z0, z1, z2, z3, z4⟩, f0, f1, f2, f3, f4⟩ := all5 HX3.out; have h6 := (HST.out (put5 w3 W.heap.size (.int .u8 d.op) (.int .i64 d.A) (.int .i64 d.B) (.slice d.o d.n d.cap) (.slice o3 k3 cap3)) (put5_below HB3.out (Nat.le_refl _) _ _ _ _ _)).1; unfold put5 at h6; have HS6 : Hid (type_of% h6) := h6; clear h6; have HBEFORE : Hid True := trivial; clear hown hpl hb3))
    · have hno := HAFTER.out
      have bAl : Below w3.heap.size w3 (w3.alloc (.cells #[.int .u8 d.op, .int .i64 d.A, .int .i64 d.B, .slice d.o d.n d.cap, .slice o3 k3 cap3] 110)) := (Below.refl _ _).alloc (Nat.le_refl _) _
      have HB4 : Hid (Below W.heap.size W (w3.alloc (.cells #[.int .u8 d.op, .int .i64 d.A, .int .i64 d.B, .slice d.o d.n d.cap, .slice o3 k3 cap3] 110))) := HB3.out.trans (bAl.mono HB3.out.size)
      have HX9 : Hid ((w3.alloc (.cells #[.int .u8 d.op, .int .i64 d.A, .int .i64 d.B, .slice d.o d.n d.cap, .slice o3 k3 cap3] 110)).heap[w3.heap.size]? = some (.cells #[.int .u8 d.op, .int .i64 d.A, .int .i64 d.B, .slice d.o d.n d.cap, .slice o3 k3 cap3] 110 (0, 0))) := heap_alloc_new w3 _
      have hnewA : ∀ g, New WA w3 g → g < w3.heap.size → New W (w3.alloc (.cells #[.int .u8 d.op, .int .i64 d.A, .int .i64 d.B, .slice d.o d.n d.cap, .slice o3 k3 cap3] 110)) g ∧ (w3.alloc (.cells #[.int .u8 d.op, .int .i64 d.A, .int .i64 d.B, .slice d.o d.n d.cap, .slice o3 k3 cap3] 110)).heap[g]? = w3.heap[g]? := fun g hg hl => ⟨⟨Nat.le_trans HBE.out.size hg.1, Nat.lt_of_lt_of_le hg.2 bAl.size⟩, bAl.block g hl⟩
      have HRW4 : Hid (RowP (w3.alloc (.cells #[.int .u8 d.op, .int .i64 d.A, .int .i64 d.B, .slice d.o d.n d.cap, .slice o3 k3 cap3] 110)) (New W (w3.alloc (.cells #[.int .u8 d.op, .int .i64 d.A, .int .i64 d.B, .slice d.o d.n d.cap, .slice o3 k3 cap3] 110))) o3 k3 cap3 cs3) := HRW.out.keep hnewA
      have HPL4 : Hid (PL (w3.alloc (.cells #[.int .u8 d.op, .int .i64 d.A, .int .i64 d.B, .slice d.o d.n d.cap, .slice o3 k3 cap3] 110)) (New W (w3.alloc (.cells #[.int .u8 d.op, .int .i64 d.A, .int .i64 d.B, .slice d.o d.n d.cap, .slice o3 k3 cap3] 110))) cs3 V1 d1 s1) := HPL.out.keep bAl.size (fun j _ _ hj => bAl.block j (some_lt hj)) hnewA
      clear bAl hnewA HS4 HS5
      have HX99 : Hid (w3.heap.size ≠ w.heap.size + 1 + 1) := by
        unfold Hid
        have h1 := HSZ0.out
        have h2 := HB3.out.size
        omega
      clear HB3 HRW HPL HC3 HWA HWB HBW HBE HBX HBF HZB HS0 HSF HS3
      generalize w3.alloc (.cells #[.int .u8 d.op, .int .i64 d.A, .int .i64 d.B, .slice d.o d.n d.cap, .slice o3 k3 cap3] 110) = W4 at HB4 HX9 HRW4 HPL4 ⊢
      generalize w3.heap.size = X9 at HX9 HX99 ⊢
      have nX1 : ¬ (X9 = w.heap.size + 1 + 1) := HX99.out
      have nX2 : ¬ (w.heap.size + 1 + 1 = X9) := fun e => HX99.out e.symm
      have HBW4 : Hid (Below w.heap.size w W4.drew) := (HB0.out.trans (HB4.out.mono HB0.out.size)).drew
      have HST4 : Hid (∀ w', Below W4.heap.size W4 w' → (w'.cell? ⟨w.heap.size, 0, none⟩ = some (.slice (some ⟨b, f, none⟩) n cap) ∧ w'.cell? ⟨w.heap.size, 1, none⟩ = some (.slice (some ⟨gE, 0, none⟩) n n) ∧ w'.cell? ⟨w.heap.size, 2, none⟩ = some (.slice (some ⟨gS, 0, none⟩) n n) ∧ w'.cell? ⟨X9, 0, none⟩ = some (.int .u8 d.op) ∧ w'.cell? ⟨X9, 1, none⟩ = some (.int .i64 d.A) ∧ w'.cell? ⟨X9, 2, none⟩ = some (.int .i64 d.B) ∧ w'.cell? ⟨X9, 3, none⟩ = some (.slice d.o d.n d.cap) ∧ w'.cell? ⟨X9, 4, none⟩ = some (.slice o3 k3 cap3))) := fun w' bb => by
        obtain ⟨⟨y0, y1, y2, _⟩, _⟩ := HST.out w' (HB4.out.trans (bb.mono HB4.out.size))
        obtain ⟨⟨z0, z1, z2, z3, z4⟩, _⟩ := all5 ((bb.block _ (some_lt HX9.out)).trans HX9.out)
        exact ⟨y0, y1, y2, z0, z1, z2, z3, z4⟩
      have HS7 : Hid (type_of% (HST4.out _ ((Below.refl _ W4).drew))) := HST4.out _ ((Below.refl _ W4).drew)
      obtain ⟨WC, hWC⟩ : ∃ X, W4.drew = X := ⟨_, rfl⟩
      rw [hWC] at HBW4
      have HBC : Hid (Below W4.heap.size W4 WC) := hWC ▸ (Below.refl _ _).drew
      have HWC : Hid (type_of% hWC) := hWC
      clear hWC
      go_wp2
      go_region_held3 (fun w' => w'.cell? ⟨w.heap.size, 0, none⟩ = some (.slice (some ⟨b, f, none⟩) n cap) ∧ w'.cell? ⟨w.heap.size, 1, none⟩ = some (.slice (some ⟨gE, 0, none⟩) n n) ∧ w'.cell? ⟨w.heap.size, 2, none⟩ = some (.slice (some ⟨gS, 0, none⟩) n n) ∧ w'.cell? ⟨X9, 0, none⟩ = some (.int .u8 d.op) ∧ w'.cell? ⟨X9, 1, none⟩ = some (.int .i64 d.A) ∧ w'.cell? ⟨X9, 2, none⟩ = some (.int .i64 d.B) ∧ w'.cell? ⟨X9, 3, none⟩ = some (.slice d.o d.n d.cap) ∧ w'.cell? ⟨X9, 4, none⟩ = some (.slice o3 k3 cap3)) (first | with_reducible exact HS7.out | with_reducible exact HS8.out | go_keep)
        (first
          | (go_at_call 38; rw [HWC.out]; refine (HBU.out _ WC (by first | rfl | omega | (rw [IntKind.wrap_i64]; omega)) HBW4.out).mono ?_; rintro r w5 ⟨o6, k6, cap6, cs6, rfl, hown, hpl, hb5⟩; have HB5 : Hid (Below W4.heap.size W4 w5) := HBC.out.trans (hb5.mono HBC.out.size); have HBW5 : Hid (Below W.heap.size W w5) := HB4.out.trans (HB5.out.mono HB4.out.size); have HRX : Hid (RowP w5 (New W w5) o6 k6 cap6 cs6) := own_row (w := w) hown (fun g h1 h2 => ⟨Nat.le_trans HB4.out.size (Nat.le_trans HBC.out.size h1), h2⟩) rfl; have HPX : Hid (PL w5 (New W w5) cs6 V2 d2 s2) := hpl.new (Nat.le_trans HB4.out.size HBC.out.size); have HR5 : Hid (w5.heap[w.heap.size + 1 + 1]? = some (.cells #[.int .u8 0, .int .i64 0, .int .i64 0, .slice none 0 0, .slice none 0 0, .bool false, .slice none 0 0] 112 (0, 0))) := (HST.out _ HBW5.out).2; obtain ⟨⟨z0, z1, z2, z3, z4, z5, z6⟩, f0, f1, f2, f3, f4, f5, f6⟩ := all7 HR5.out; have HS8 : Hid (type_of% (HST4.out _ HB5.out)) := HST4.out _ HB5.out; clear hown hpl hb5))
      all_goals
        go_wp2
        obtain ⟨⟨q0, q1, q2, q3, q4, q5, q6⟩, _⟩ := all7 (put7_at HR5.out (.int .u8 d.op) (.int .i64 d.A) (.int .i64 d.B) (.slice d.o d.n d.cap) (.slice o3 k3 cap3) (.bool true) (.slice o6 k6 cap6))
        unfold put7 at q0 q1 q2 q3 q4 q5 q6
        refine bodyPost_ret (v := .agg #[(.int .u8 d.op), (.int .i64 d.A), (.int .i64 d.B), (.slice d.o d.n d.cap), (.slice o3 k3 cap3), (.bool true), (.slice o6 k6 cap6)]) (by simp [results, Tryd.results87, go_sem, q0, q1, q2, q3, q4, q5, q6]) rfl ?_
        have hoff := fun j (_ : j < w5.heap.size) (h : j ≠ w.heap.size + 1 + 1) => put7_off (w := w5) h (.int .u8 d.op) (.int .i64 d.A) (.int .i64 d.B) (.slice d.o d.n d.cap) (.slice o3 k3 cap3) (.bool true) (.slice o6 k6 cap6)
        have hsz := put7_size w5 (w.heap.size + 1 + 1) (.int .u8 d.op) (.int .i64 d.A) (.int .i64 d.B) (.slice d.o d.n d.cap) (.slice o3 k3 cap3) (.bool true) (.slice o6 k6 cap6)
        have hwW : w.heap.size ≤ W.heap.size := HB0.out.size
        have hRW : w.heap.size + 1 + 1 < W.heap.size := by have := HSZ0.out; omega
        have hnew : ∀ g, New W W4 g → g < W4.heap.size → New W w5 g ∧ w5.heap[g]? = W4.heap[g]? := fun g hg hl => ⟨⟨hg.1, Nat.lt_of_lt_of_le hg.2 HB5.out.size⟩, HB5.out.block g hl⟩
        refine ⟨o3, k3, cap3, cs3, o6, k6, cap6, cs6, rfl, (HRW4.out.keep hnew).move (Nat.le_of_eq hsz.symm) hoff hRW hwW, (HPL4.out.keep HB5.out.size (fun j _ _ hj => HB5.out.block j (some_lt hj)) hnew).move (Nat.le_of_eq hsz.symm) hoff HR5.out (by decide) hRW hwW, HRX.out.move (Nat.le_of_eq hsz.symm) hoff hRW hwW, HPX.out.move (Nat.le_of_eq hsz.symm) hoff HR5.out (by decide) hRW hwW, (by intro h; cases h), ?_, put7_below (HB0.out.trans (HBW5.out.mono hwW)) (by omega) _ _ _ _ _ _ _⟩
        refine (HOK.out.under HBW5.out).keep (Nat.le_of_eq hsz.symm) fun j cur f hj => hoff j (some_lt hj) fun e => ?_
        rw [e, HR5.out] at hj
        simp at hj
    · have hno := HBEFORE.out
      have hoff9 := fun j (_ : j < w3.heap.size) (h : j ≠ W.heap.size) => put5_off (w := w3) h (.int .u8 d.op) (.int .i64 d.A) (.int .i64 d.B) (.slice d.o d.n d.cap) (.slice o3 k3 cap3)
      have hsz9 := put5_size w3 W.heap.size (.int .u8 d.op) (.int .i64 d.A) (.int .i64 d.B) (.slice d.o d.n d.cap) (.slice o3 k3 cap3)
      have hRB : W.heap.size < WB.heap.size := some_lt HZB.out
      have HB4 : Hid (Below W.heap.size W (((((w3.setCell ⟨W.heap.size, 0, none⟩ (.int .u8 d.op)).setCell ⟨W.heap.size, 1, none⟩ (.int .i64 d.A)).setCell ⟨W.heap.size, 2, none⟩ (.int .i64 d.B)).setCell ⟨W.heap.size, 3, none⟩ (.slice d.o d.n d.cap)).setCell ⟨W.heap.size, 4, none⟩ (.slice o3 k3 cap3))) := put5_below HB3.out (Nat.le_refl _) _ _ _ _ _
      have HX9 : Hid ((((((w3.setCell ⟨W.heap.size, 0, none⟩ (.int .u8 d.op)).setCell ⟨W.heap.size, 1, none⟩ (.int .i64 d.A)).setCell ⟨W.heap.size, 2, none⟩ (.int .i64 d.B)).setCell ⟨W.heap.size, 3, none⟩ (.slice d.o d.n d.cap)).setCell ⟨W.heap.size, 4, none⟩ (.slice o3 k3 cap3)).heap[W.heap.size]? = some (.cells #[.int .u8 d.op, .int .i64 d.A, .int .i64 d.B, .slice d.o d.n d.cap, .slice o3 k3 cap3] 110 (0, 0))) := put5_at HX3.out _ _ _ _ _
      have HRW4 : Hid (RowP (((((w3.setCell ⟨W.heap.size, 0, none⟩ (.int .u8 d.op)).setCell ⟨W.heap.size, 1, none⟩ (.int .i64 d.A)).setCell ⟨W.heap.size, 2, none⟩ (.int .i64 d.B)).setCell ⟨W.heap.size, 3, none⟩ (.slice d.o d.n d.cap)).setCell ⟨W.heap.size, 4, none⟩ (.slice o3 k3 cap3)) (New W (((((w3.setCell ⟨W.heap.size, 0, none⟩ (.int .u8 d.op)).setCell ⟨W.heap.size, 1, none⟩ (.int .i64 d.A)).setCell ⟨W.heap.size, 2, none⟩ (.int .i64 d.B)).setCell ⟨W.heap.size, 3, none⟩ (.slice d.o d.n d.cap)).setCell ⟨W.heap.size, 4, none⟩ (.slice o3 k3 cap3))) o3 k3 cap3 cs3) := HRW.out.move (Nat.le_of_eq hsz9.symm) hoff9 hRB HBF.out.size
      have HPL4 : Hid (PL (((((w3.setCell ⟨W.heap.size, 0, none⟩ (.int .u8 d.op)).setCell ⟨W.heap.size, 1, none⟩ (.int .i64 d.A)).setCell ⟨W.heap.size, 2, none⟩ (.int .i64 d.B)).setCell ⟨W.heap.size, 3, none⟩ (.slice d.o d.n d.cap)).setCell ⟨W.heap.size, 4, none⟩ (.slice o3 k3 cap3)) (New W (((((w3.setCell ⟨W.heap.size, 0, none⟩ (.int .u8 d.op)).setCell ⟨W.heap.size, 1, none⟩ (.int .i64 d.A)).setCell ⟨W.heap.size, 2, none⟩ (.int .i64 d.B)).setCell ⟨W.heap.size, 3, none⟩ (.slice d.o d.n d.cap)).setCell ⟨W.heap.size, 4, none⟩ (.slice o3 k3 cap3))) cs3 V1 d1 s1) := HPL.out.move (Nat.le_of_eq hsz9.symm) hoff9 HX3.out (by decide) hRB HBF.out.size
      clear hoff9 hsz9 hRB HS6 HX3 z0 z1 z2 z3 z4 f0 f1 f2 f3 f4
      have HX99 : Hid (W.heap.size ≠ w.heap.size + 1 + 1) := by
        unfold Hid
        have h1 := HSZ0.out
        have h2 := HB3.out.size
        omega
      clear HB3 HRW HPL HC3 HWA HWB HBW HBE HBX HBF HZB HS0 HSF HS3
      generalize ((((w3.setCell ⟨W.heap.size, 0, none⟩ (.int .u8 d.op)).setCell ⟨W.heap.size, 1, none⟩ (.int .i64 d.A)).setCell ⟨W.heap.size, 2, none⟩ (.int .i64 d.B)).setCell ⟨W.heap.size, 3, none⟩ (.slice d.o d.n d.cap)).setCell ⟨W.heap.size, 4, none⟩ (.slice o3 k3 cap3) = W4 at HB4 HX9 HRW4 HPL4 ⊢
      generalize W.heap.size = X9 at HX9 HX99 ⊢
      have nX1 : ¬ (X9 = w.heap.size + 1 + 1) := HX99.out
      have nX2 : ¬ (w.heap.size + 1 + 1 = X9) := fun e => HX99.out e.symm
      have HBW4 : Hid (Below w.heap.size w W4.drew) := (HB0.out.trans (HB4.out.mono HB0.out.size)).drew
      have HST4 : Hid (∀ w', Below W4.heap.size W4 w' → (w'.cell? ⟨w.heap.size, 0, none⟩ = some (.slice (some ⟨b, f, none⟩) n cap) ∧ w'.cell? ⟨w.heap.size, 1, none⟩ = some (.slice (some ⟨gE, 0, none⟩) n n) ∧ w'.cell? ⟨w.heap.size, 2, none⟩ = some (.slice (some ⟨gS, 0, none⟩) n n) ∧ w'.cell? ⟨X9, 0, none⟩ = some (.int .u8 d.op) ∧ w'.cell? ⟨X9, 1, none⟩ = some (.int .i64 d.A) ∧ w'.cell? ⟨X9, 2, none⟩ = some (.int .i64 d.B) ∧ w'.cell? ⟨X9, 3, none⟩ = some (.slice d.o d.n d.cap) ∧ w'.cell? ⟨X9, 4, none⟩ = some (.slice o3 k3 cap3))) := fun w' bb => by
        obtain ⟨⟨y0, y1, y2, _⟩, _⟩ := HST.out w' (HB4.out.trans (bb.mono HB4.out.size))
        obtain ⟨⟨z0, z1, z2, z3, z4⟩, _⟩ := all5 ((bb.block _ (some_lt HX9.out)).trans HX9.out)
        exact ⟨y0, y1, y2, z0, z1, z2, z3, z4⟩
      have HS7 : Hid (type_of% (HST4.out _ ((Below.refl _ W4).drew))) := HST4.out _ ((Below.refl _ W4).drew)
      obtain ⟨WC, hWC⟩ : ∃ X, W4.drew = X := ⟨_, rfl⟩
      rw [hWC] at HBW4
      have HBC : Hid (Below W4.heap.size W4 WC) := hWC ▸ (Below.refl _ _).drew
      have HWC : Hid (type_of% hWC) := hWC
      clear hWC
      go_wp2
      go_region_held3 (fun w' => w'.cell? ⟨w.heap.size, 0, none⟩ = some (.slice (some ⟨b, f, none⟩) n cap) ∧ w'.cell? ⟨w.heap.size, 1, none⟩ = some (.slice (some ⟨gE, 0, none⟩) n n) ∧ w'.cell? ⟨w.heap.size, 2, none⟩ = some (.slice (some ⟨gS, 0, none⟩) n n) ∧ w'.cell? ⟨X9, 0, none⟩ = some (.int .u8 d.op) ∧ w'.cell? ⟨X9, 1, none⟩ = some (.int .i64 d.A) ∧ w'.cell? ⟨X9, 2, none⟩ = some (.int .i64 d.B) ∧ w'.cell? ⟨X9, 3, none⟩ = some (.slice d.o d.n d.cap) ∧ w'.cell? ⟨X9, 4, none⟩ = some (.slice o3 k3 cap3)) (first | with_reducible exact HS7.out | with_reducible exact HS8.out | go_keep)
        (first
          | (go_at_call 38; rw [HWC.out]; refine (HBU.out _ WC (by first | rfl | omega | (rw [IntKind.wrap_i64]; omega)) HBW4.out).mono ?_; rintro r w5 ⟨o6, k6, cap6, cs6, rfl, hown, hpl, hb5⟩; have HB5 : Hid (Below W4.heap.size W4 w5) := HBC.out.trans (hb5.mono HBC.out.size); have HBW5 : Hid (Below W.heap.size W w5) := HB4.out.trans (HB5.out.mono HB4.out.size); have HRX : Hid (RowP w5 (New W w5) o6 k6 cap6 cs6) := own_row (w := w) hown (fun g h1 h2 => ⟨Nat.le_trans HB4.out.size (Nat.le_trans HBC.out.size h1), h2⟩) rfl; have HPX : Hid (PL w5 (New W w5) cs6 V2 d2 s2) := hpl.new (Nat.le_trans HB4.out.size HBC.out.size); have HR5 : Hid (w5.heap[w.heap.size + 1 + 1]? = some (.cells #[.int .u8 0, .int .i64 0, .int .i64 0, .slice none 0 0, .slice none 0 0, .bool false, .slice none 0 0] 112 (0, 0))) := (HST.out _ HBW5.out).2; obtain ⟨⟨z0, z1, z2, z3, z4, z5, z6⟩, f0, f1, f2, f3, f4, f5, f6⟩ := all7 HR5.out; have HS8 : Hid (type_of% (HST4.out _ HB5.out)) := HST4.out _ HB5.out; clear hown hpl hb5))
      all_goals
        go_wp2
        obtain ⟨⟨q0, q1, q2, q3, q4, q5, q6⟩, _⟩ := all7 (put7_at HR5.out (.int .u8 d.op) (.int .i64 d.A) (.int .i64 d.B) (.slice d.o d.n d.cap) (.slice o3 k3 cap3) (.bool true) (.slice o6 k6 cap6))
        unfold put7 at q0 q1 q2 q3 q4 q5 q6
        refine bodyPost_ret (v := .agg #[(.int .u8 d.op), (.int .i64 d.A), (.int .i64 d.B), (.slice d.o d.n d.cap), (.slice o3 k3 cap3), (.bool true), (.slice o6 k6 cap6)]) (by simp [results, Tryd.results87, go_sem, q0, q1, q2, q3, q4, q5, q6]) rfl ?_
        have hoff := fun j (_ : j < w5.heap.size) (h : j ≠ w.heap.size + 1 + 1) => put7_off (w := w5) h (.int .u8 d.op) (.int .i64 d.A) (.int .i64 d.B) (.slice d.o d.n d.cap) (.slice o3 k3 cap3) (.bool true) (.slice o6 k6 cap6)
        have hsz := put7_size w5 (w.heap.size + 1 + 1) (.int .u8 d.op) (.int .i64 d.A) (.int .i64 d.B) (.slice d.o d.n d.cap) (.slice o3 k3 cap3) (.bool true) (.slice o6 k6 cap6)
        have hwW : w.heap.size ≤ W.heap.size := HB0.out.size
        have hRW : w.heap.size + 1 + 1 < W.heap.size := by have := HSZ0.out; omega
        have hnew : ∀ g, New W W4 g → g < W4.heap.size → New W w5 g ∧ w5.heap[g]? = W4.heap[g]? := fun g hg hl => ⟨⟨hg.1, Nat.lt_of_lt_of_le hg.2 HB5.out.size⟩, HB5.out.block g hl⟩
        refine ⟨o3, k3, cap3, cs3, o6, k6, cap6, cs6, rfl, (HRW4.out.keep hnew).move (Nat.le_of_eq hsz.symm) hoff hRW hwW, (HPL4.out.keep HB5.out.size (fun j _ _ hj => HB5.out.block j (some_lt hj)) hnew).move (Nat.le_of_eq hsz.symm) hoff HR5.out (by decide) hRW hwW, HRX.out.move (Nat.le_of_eq hsz.symm) hoff hRW hwW, HPX.out.move (Nat.le_of_eq hsz.symm) hoff HR5.out (by decide) hRW hwW, (by intro h; cases h), ?_, put7_below (HB0.out.trans (HBW5.out.mono hwW)) (by omega) _ _ _ _ _ _ _⟩
        refine (HOK.out.under HBW5.out).keep (Nat.le_of_eq hsz.symm) fun j cur f hj => hoff j (some_lt hj) fun e => ?_
        rw [e, HR5.out] at hj
        simp at hj

end Go.Proofs.YtmbficofcmfmlaaDoor
