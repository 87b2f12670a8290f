/-
  The law of pairs: of whatever body.
-/
import Derived.Test.YtgdleahhkaolbaaDoorNestPairsWalk
namespace Go.Proofs.YtgdleahhkaolbaaDoor
open Go.RowKit

/-- The law of pairs, of whatever body. -/
theorem nestPairs_walk (o : Option Addr) (cap : Nat) (L : List InsD) (i j : Int) (hi : -9223372036854775808 ≤ i ∧ i ≤ 9223372036854775807) (hj : -9223372036854775808 ≤ j ∧ j ≤ 9223372036854775807) (w : World) (hT : TabIn w) (h : LD w o L) :
    Calls Tryd.prog 8 #[.slice o L.length cap, .int .i64 i, .int .i64 j] w fun r w' => r = .returned (.bool true) ∧ Below w.heap.size w w' := by
  have ht0 : 1 < w.heap.size := by
    have hc := hT 0 (by omega)
    apply Nat.lt_of_not_le
    intro hle
    have : w.heap[1]? = none := Array.getElem?_eq_none hle
    simp [World.cell?, this] at hc
  have hT' : ∀ w', Below w.heap.size w w' → TabIn w' := fun w' hb => hT.chg (P := w.heap.size) (Chg.of_below hb) ht0 (by omega)
  have hE : ∀ w', Below w.heap.size w w' → Calls Tryd.prog 26 #[.slice (some ⟨w'.heap.size, 0, none⟩) 1 1] (w'.alloc (.cells #[.int .u8 11, .int .i64 0, .int .i64 0, .slice none 0 0] 24)) fun r w'' => r = .returned (.int .i64 0) ∧ Below w'.heap.size w' w'' := fun w' b => by
    have b2 : Below w.heap.size w (w'.alloc (.cells #[.int .u8 11, .int .i64 0, .int .i64 0, .slice none 0 0] 24)) := b.alloc b.size _
    have := ncheck_any (some ⟨w'.heap.size, 0, none⟩) 1 [endD] _ (end_LD w') (hT' _ b2) (Nat.lt_of_lt_of_le ht0 b2.size)
    rw [endD_chk] at this
    refine this.mono ?_
    rintro r w1 ⟨rfl, b3⟩
    exact ⟨rfl, ((Below.refl _ _).alloc (Nat.le_refl _) _).trans (b3.mono (by simp))⟩
  have hN : ∀ w', Below w.heap.size w w' → Calls Tryd.prog 26 #[.slice none 0 0] w' fun r w'' => r = .returned (.int .i64 3) ∧ Below w'.heap.size w' w'' := fun w' b => by
    have := ncheck_any none 0 [] w' ⟨by simp, Or.inl rfl⟩ (hT' w' b) (Nat.lt_of_lt_of_le ht0 b.size)
    rw [nil_chk] at this
    exact this
  have ba : Below w.heap.size w (w.alloc (.cells #[.slice o L.length cap] 40)) := (Below.refl _ _).alloc (Nat.le_refl _) _
  by_cases hc : nChk L = 0
  · obtain ⟨h200, _, _, hpos⟩ := nChk_ok L hc
    have inv := match_inv L hc
    have hmat := match_any o cap L _ (h.below ba) (hT' _ ba) (Nat.lt_of_lt_of_le ht0 ba.size) hc
    have hn0 : (0 : Int) < (L.length : Int) := by omega
    obtain ⟨a, ha⟩ : ∃ a : Nat, i % (L.length : Int) = (a : Int) := ⟨(i % (L.length : Int)).toNat, by have := Int.emod_nonneg i (b := (L.length : Int)) (by omega); omega⟩
    obtain ⟨c, hcc⟩ : ∃ c : Nat, j % (L.length : Int) = (c : Int) := ⟨(j % (L.length : Int)).toNat, by have := Int.emod_nonneg j (b := (L.length : Int)) (by omega); omega⟩
    have ha1 : a < L.length := by have := Int.emod_lt_of_pos i hn0; omega
    have hc1 : c < L.length := by have := Int.emod_lt_of_pos j hn0; omega
    have hRi := fun w => rest_any i L.length a hn0 (by omega) ha hi.1 hi.2 w
    have hRj := fun w => rest_any j L.length c hn0 (by omega) hcc hj.1 hj.2 w
    rcases h.2 with h0 | ⟨b, f, rfl, hbw, hcl⟩
    · rw [h0] at hpos; simp at hpos
    have hop : ∀ w'' p, Below w.heap.size w w'' → p < L.length → w''.cell? ⟨b, f + p * 4, none⟩ = some (.int .u8 (opAt L p)) := by
      intro w'' p bb hp
      rw [bb.cell (p := ⟨b, f + p * 4, none⟩) hbw, opAt_get L p hp]
      exact (hcl p hp).1
    have hst : ∀ {gE gS : Nat} {o2 : Option Addr} {cap2 : Nat} {w1 w2 : World}, MS (w.alloc (.cells #[.slice (some ⟨b, f, none⟩) L.length cap] 40)) w1 gE gS L.length (matchOf L).1 (matchOf L).2.1 (matchOf L).2.2 o2 cap2 → Below w1.heap.size w1 w2 → MS (w.alloc (.cells #[.slice (some ⟨b, f, none⟩) L.length cap] 40)) w2 gE gS L.length (matchOf L).1 (matchOf L).2.1 (matchOf L).2.2 o2 cap2 ∧ Below w.heap.size w w2 := by
      intro gE gS o2 cap2 w1 w2 m bb
      have m2 := m.under bb
      exact ⟨m2, ba.trans (m2.below.mono (by simp))⟩
    by_cases hx : isOb (opAt L a) = true
    · obtain ⟨q, q1, q2, q3, q4, q5, q6⟩ := inv.closed a ha1 ((isOb_iff _).1 hx) (by simp)
      have hcase : isOb (opAt L c) = false ∨ ¬ (a : Int) < (c : Int) ∨ (matchOf L).2.1.getD c 0 < (q : Int) ∨ (q : Int) < (c : Int) := by
        by_cases hy : isOb (opAt L c) = true
        · right
          by_cases hac : (a : Int) < (c : Int)
          · right
            have := (inv.nest a c (by omega) hc1 ((isOb_iff _).1 hx) ((isOb_iff _).1 hy) (by simp)).2 (by simp)
            rw [q1] at this
            exact this
          · exact Or.inl hac
        · exact Or.inl (by simpa using hy)
      rcases q6 with s | ⟨hh, s1, s2, s3, s4, s5, s6, s7⟩
      · refine pairs_end b f L.length cap i j a c hpos h200 ha1 hc1 (opAt L a) (opAt L c) q ((matchOf L).2.1.getD c 0) hx q2 q3 hcase w (hmat.mono ?_) hE hN hRi hRj
        rintro r w1 ⟨gE, gS, o2, cap2, rfl, m⟩
        refine ⟨gE, gS, rfl, by have := m.below; rw [World.size_alloc] at this; exact this, fun w2 bb => ?_⟩
        obtain ⟨m2, b2⟩ := hst m bb
        have e1 := (m2.cellE a ha1).1
        have e2 := (m2.cellE q q3).1
        have e3 := (m2.cellE c hc1).1
        have e4 := (m2.cellS a ha1).1
        rw [q1] at e1
        rw [q5] at e2
        rw [s] at e4
        have e5 := hop w2 q b2 q3
        rw [q4] at e5
        exact ⟨hop w2 a b2 ha1, hop w2 c b2 hc1, e1, e2, e5, e3, e4⟩
      · refine pairs_else b f L.length cap i j a c hpos h200 ha1 hc1 (opAt L c) q hh ((matchOf L).2.1.getD c 0) s2 s3 q2 q3 hcase w (hmat.mono ?_) hE hN hRi hRj
        rintro r w1 ⟨gE, gS, o2, cap2, rfl, m⟩
        refine ⟨gE, gS, rfl, by have := m.below; rw [World.size_alloc] at this; exact this, fun w2 bb => ?_⟩
        obtain ⟨m2, b2⟩ := hst m bb
        have hhn : hh < L.length := by omega
        have e1 := (m2.cellE a ha1).1
        have e2 := (m2.cellE q q3).1
        have e3 := (m2.cellE c hc1).1
        have e4 := (m2.cellS a ha1).1
        have e6 := (m2.cellS hh hhn).1
        have e7 := (m2.cellE hh hhn).1
        rw [q1] at e1
        rw [q5] at e2
        rw [s1] at e4
        rw [s6] at e6
        rw [s7] at e7
        have e5 := hop w2 q b2 q3
        rw [q4] at e5
        have e8 := hop w2 hh b2 hhn
        rw [s5] at e8
        have e9 := hop w2 a b2 ha1
        rw [s4] at e9
        exact ⟨e9, hop w2 c b2 hc1, e1, e2, e5, e3, e4, e8, e6, e7⟩
    · refine pairs_no b f L.length cap i j a c hpos h200 ha1 hc1 (opAt L a) (by simpa using hx) w (hmat.mono ?_) hE hN hRi hRj
      rintro r w1 ⟨gE, gS, o2, cap2, rfl, m⟩
      refine ⟨gE, gS, rfl, by have := m.below; rw [World.size_alloc] at this; exact this, fun w2 bb => ?_⟩
      exact hop w2 a (hst m bb).2 ha1
  · exact pairs_err o L.length cap i j (nChk L) (by rw [beq_eq_false_iff_ne]; exact hc) w ((match_bad o cap L _ (h.below ba) (hT' _ ba) (Nat.lt_of_lt_of_le ht0 ba.size) hc).mono fun r w1 ⟨e, b1⟩ => ⟨e, ba.trans (b1.mono (by simp))⟩) hE hN
end Go.Proofs.YtgdleahhkaolbaaDoor
