/-
  What the judges' own wrapped does.
-/
import Derived.Test.YtmbficofcmfmlaaDoorNWrap1
namespace Go.Proofs.YtmbficofcmfmlaaDoor
open Go.RowKit

theorem cellsOf_len : ∀ L : List InsD, (cellsOf L).length = L.length * 4
  | [] => rfl
  | d :: L => by
    have := cellsOf_len L
    unfold cellsOf at this ⊢
    rw [List.flatMap_cons, List.length_append, this, List.length_cons]
    simp only [InsD.cells, List.length_cons, List.length_nil]
    omega
theorem cellsOf_one (L : List InsD) : ∀ u ∈ cellsOf L, u.oneCell' = true := by
  intro u hu
  unfold cellsOf at hu
  obtain ⟨d, _, hd⟩ := List.mem_flatMap.1 hu
  simp only [InsD.cells, List.mem_cons, List.not_mem_nil, or_false] at hd
  rcases hd with rfl | rfl | rfl | rfl <;> rfl
theorem cellsOf_news {w : World} {b f : Nat} {L : List InsD} (h : LD w (some ⟨b, f, none⟩) L) : ∀ j u, (cellsOf L)[j]? = some u → w.cell? ((⟨b, f, none⟩ : Addr).add j) = some u := by
  intro j u hu
  have hj : j < (cellsOf L).length := (List.getElem?_eq_some_iff.1 hu).1
  rw [cellsOf_len] at hj
  have hi : j / 4 < L.length := by omega
  have e := cellsOf_at L (j / 4) (j % 4) hi (by omega)
  rw [show j / 4 * 4 + j % 4 = j by omega, hu] at e
  have ha : (⟨b, f, none⟩ : Addr).add j = ⟨b, f + j, none⟩ := by unfold Addr.add; split <;> simp_all
  rw [ha]
  rcases h.2 with h0 | ⟨b', f', h1, _, hc⟩
  · rw [h0] at hi
    simp at hi
  · cases h1
    obtain ⟨c0, c1, c2, c3⟩ := hc (j / 4) hi
    have hr : j % 4 = 0 ∨ j % 4 = 1 ∨ j % 4 = 2 ∨ j % 4 = 3 := by omega
    rcases hr with hr | hr | hr | hr
    · rw [hr] at e
      rw [show f + j = f + j / 4 * 4 by omega, c0, e]
      rfl
    · rw [hr] at e
      rw [show f + j = f + j / 4 * 4 + 1 by omega, c1, e]
      rfl
    · rw [hr] at e
      rw [show f + j = f + j / 4 * 4 + 2 by omega, c2, e]
      rfl
    · rw [hr] at e
      rw [show f + j = f + j / 4 * 4 + 3 by omega, c3, e]
      rfl
theorem own_LD {w : World} {B k cap g : Nat} {L : List InsD} (own : w.ownsRow B 52 4 (.slice (some ⟨g, 0, none⟩) k cap) k (cellsOf L)) (len : L.length = k) (ok : ∀ d ∈ L, d.ok w) : LD w (some ⟨g, 0, none⟩) L := by
  refine ⟨ok, Or.inr ⟨g, 0, rfl, (own.lt g rfl).2, fun i hi => ?_⟩⟩
  have q : ∀ r, r < 4 → w.cell? ⟨g, 0 + i * 4 + r, none⟩ = (L[i]).cells[r]? := fun r hr => by
    rw [← cellsOf_at L i r hi hr, ← own.cellAt (i * 4 + r) (by omega), Nat.zero_add]
  exact ⟨q 0 (by omega), q 1 (by omega), q 2 (by omega), q 3 (by omega)⟩
theorem own_capI {w : World} {B k cap g : Nat} {xs : List Value} (own : w.ownsRow B 52 4 (.slice (some ⟨g, 0, none⟩) k cap) k xs) : k ≤ cap ∧ cap ≤ maxLen := by
  rcases own.2 with ⟨h1, _⟩ | ⟨g, c, cur, h1, _, _, h2, h3, _⟩
  · simp at h1
  · simp only [Value.slice.injEq] at h1
    omega
theorem hdD_ok (op : Int) (h0 : 0 ≤ op) (h1 : op ≤ 255) (w : World) : (hdD op).ok w := ⟨h0, h1, ⟨by simp [hdD], by simp [hdD]⟩, Nat.le_refl _, by unfold maxLen hdD; simp, ⟨rfl, Or.inl rfl⟩, fun _ => rfl⟩
set_option maxHeartbeats 4000000 in
set_option maxRecDepth 1000000 in
theorem wrapped_core (b f n cap : Nat) (L : List InsD) (hn : L.length = n) (h200 : n ≤ 200) (hpos : 0 < n) (op : Int) (h0 : 0 ≤ op) (h1 : op ≤ 255) (w : World) (h : LD w (some ⟨b, f, none⟩) L) :
    Calls Tryd.prog 25 #[.slice (some ⟨b, f, none⟩) n cap, .int .u8 op, .int .u8 64] w fun r w' => ∃ g cap', r = .returned (.slice (some ⟨g, 0, none⟩) (n + 2) cap') ∧ LD w' (some ⟨g, 0, none⟩) (wrapL op L) ∧ n + 2 ≤ cap' ∧ cap' ≤ maxLen ∧ Below w.heap.size w w' := by
  obtain ⟨i0, hi, hz0, hz1, hz2⟩ := info_parts Tryd.infoIns
  have bA : Below w.heap.size w (w.alloc (.cells #[.int .u8 op, .int .i64 64, .int .i64 0, .slice none 0 0] 52)) := (Below.refl _ _).alloc (Nat.le_refl _) _
  have HN : Hid (type_of% (cellsOf_news (h.below bA))) := cellsOf_news (h.below bA)
  have HOK : Hid (∀ d ∈ L, d.ok w) := h.1
  have HL : Hid ((cellsOf L).length = n * 4) := by rw [← hn]; exact cellsOf_len L
  have HLn : Hid (L.length = n) := hn
  have HB0 : Hid (type_of% bA) := bA
  have HOW : Hid (World.ownsRow (w.alloc (.cells #[.int .u8 op, .int .i64 64, .int .i64 0, .slice none 0 0] 52)) w.heap.size 52 4 (.slice (some ⟨w.heap.size, 0, none⟩) 1 1) 1 [.int .u8 op, .int .i64 64, .int .i64 0, .slice none 0 0]) := World.ownsRow_lit w #[.int .u8 op, .int .i64 64, .int .i64 0, .slice none 0 0] 1 (Nat.le_refl _) (by unfold maxLen; omega) rfl
  clear h bA hn
  go_enter Tryd.func25, Tryd.ntmps25
  go_wp2_with (at_builtin; refine wpList_append_lies _ rfl _ _ 22 rfl w.heap.size 52 i0 (.agg #[.int .u8 0, .int .i64 0, .int .i64 0, .slice none 0 0]) 4 48 Tryd.underlying22 hi hz0 hz1 hz2 rfl (by omega) _ 1 [.int .u8 op, .int .i64 64, .int .i64 0, .slice none 0 0] rfl HOW.out ⟨b, f, none⟩ n cap (cellsOf L) rfl HL.out HN.out (cellsOf_one L) (by omega) (by unfold maxLen; omega) (by omega) (by simp) (w.heap.size + 1) (by simp) ?_)
  intro g capg w2 hown hgrow hat hlt
  have hb2 : Below w.heap.size w w2 := HB0.out.grown hgrow (by simp) (fun j hj => (HOW.out.lt j hj).1)
  have hs2 := hb2.size
  have HB2 : Hid (Below w.heap.size w w2) := hb2
  have HO2 : Hid (type_of% hown) := hown
  clear hown hgrow hat hlt hb2 HN HOW HB0
  go_wp2_with (at_builtin; refine wpList_append_lies _ rfl _ _ 22 rfl w.heap.size 52 i0 (.agg #[.int .u8 0, .int .i64 0, .int .i64 0, .slice none 0 0]) 4 48 Tryd.underlying22 hi hz0 hz1 hz2 rfl (by omega) _ (1 + n) _ rfl (HO2.out.alloc _) ⟨w2.heap.size, 0, none⟩ 1 1 [.int .u8 11, .int .i64 0, .int .i64 0, .slice none 0 0] rfl rfl (World.news_of_block (cs := #[.int .u8 11, .int .i64 0, .int .i64 0, .slice none 0 0]) (t := 52) (fr := (0, 0)) (heap_alloc_new w2 _)) (by simp [Value.oneCell']) (by omega) (by unfold maxLen; omega) (by omega) (by simp; omega) (w2.heap.size + 1) (by simp) ?_)
  intro g3 cap3 w3 hown hgrow hat hlt
  have hb3 : Below w.heap.size w w3 := (HB2.out.alloc (by omega) _).grown hgrow (by simp; omega) (fun j hj => (HO2.out.lt j hj).1)
  have HB3 : Hid (Below w.heap.size w w3) := hb3
  have HO3 : Hid (type_of% hown) := hown
  clear hown hgrow hat hlt hb3
  go_wp2
  go_ret
  have e : [Value.int .u8 op, .int .i64 64, .int .i64 0, .slice none 0 0] ++ cellsOf L ++ [.int .u8 11, .int .i64 0, .int .i64 0, .slice none 0 0] = cellsOf (wrapL op L) := by
    unfold wrapL cellsOf
    rw [List.flatMap_cons, List.flatMap_append]
    rfl
  have ho : w3.ownsRow w.heap.size 52 4 (.slice (some ⟨g3, 0, none⟩) (1 + n + 1) cap3) (1 + n + 1) (cellsOf (wrapL op L)) := by
    rw [← e]
    exact HO3.out
  have hlen : (wrapL op L).length = n + 2 := by
    unfold wrapL
    rw [List.length_cons, List.length_append, HLn.out]
    rfl
  have e2 : 1 + n + 1 = n + 2 := by omega
  rw [e2] at ho ⊢
  refine ⟨g3, cap3, rfl, own_LD ho hlen (fun d hd => ?_), (own_capI ho).1, (own_capI ho).2, HB3.out⟩
  unfold wrapL at hd
  rw [List.mem_cons, List.mem_append, List.mem_singleton] at hd
  rcases hd with rfl | hd | rfl
  · exact hdD_ok op h0 h1 w3
  · exact (HOK.out d hd).below HB3.out
  · exact opD_ok 11 (by omega) (by omega) w3

end Go.Proofs.YtmbficofcmfmlaaDoor
