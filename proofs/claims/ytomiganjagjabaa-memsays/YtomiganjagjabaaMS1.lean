/-
  The document's memory, call by call.
-/
import Derived.Test.YtomiganjagjabaaMS0
import Derived.Test.YtomiganjagjabaaMD9
import Derived.Test.YtomiganjagjabaaMD7
namespace Go.Proofs.Ytomiganjagjabaa
open Go.RowKit

theorem dload_all (Q q : Nat) (most : Int) (b : List Int) (op : Nat) (base off : Int) (hop : op < 256) (w : World) (hM : MaxIn w) (h : DM w Q q most b) :
    Calls Try.prog 14 #[.pointer (some ⟨Q, 0, none⟩), .int .u8 (op : Int), .int .i64 base, .int .i64 off] w (DOut Q q most w (.tuple #[.int .i64 (ldR b op base off).1, .int .i64 (ldR b op base off).2]) b) := by
  unfold ldR
  by_cases h1 : insW (op : Int) = 0 ∨ ¬ (op : Int) < 54
  · rw [if_pos h1]
    have hd : insW (op : Int) = 0 ∨ false ≠ decide (53 < (op : Int)) := by
      rcases h1 with h1 | h1
      · exact .inl h1
      · exact .inr (by rw [decide_eq_true (by omega)]; decide)
    refine (dload_no Q op base off 6 (by omega) w (dplace_un Q op false base off hop hd w hM)).mono ?_
    rintro r w' ⟨rfl, hb⟩
    exact ⟨rfl, q, h.under hb, Ch2.of_below hb, .inl rfl⟩
  · rw [if_neg h1]
    obtain ⟨wd, hwd⟩ : ∃ wd : Nat, insW (op : Int) = (wd : Int) := ⟨(insW (op : Int)).toNat, by have := insW_cases op; omega⟩
    have hc := insW_cases op
    rw [hwd]
    have hpl := dplace_go Q q most b op wd false base off hop hwd (by omega) (by omega) (by rw [decide_eq_false (by omega)]) w hM h
    by_cases h2 : plE b.length base off wd ≠ 0
    · rw [if_pos h2]
      refine (dload_no Q op base off (plE b.length base off wd) (by have := plE_cases b.length base off wd; omega) w (hpl.mono ?_)).mono ?_
      · rintro r w' ⟨hb, ⟨_, rfl⟩ | ⟨h3, _⟩⟩
        · exact ⟨rfl, hb⟩
        · exact absurd h3 h2
      · rintro r w' ⟨rfl, hb⟩
        exact ⟨rfl, q, h.under hb, Ch2.of_below hb, .inl rfl⟩
    · rw [if_neg h2]
      have h3 : plE b.length base off wd = 0 := Classical.byContradiction h2
      have h4 := plE_zero h3
      have ha : base % 4294967296 + off = (plA base off : Int) := by unfold plA; omega
      refine (dload_yes Q q most b op wd (plA base off) base off (by omega) (by omega) w h (hpl.mono ?_)).mono ?_
      · rintro r w' ⟨hb, ⟨h5, _⟩ | ⟨_, rfl⟩⟩
        · exact absurd h3 h5
        · exact ⟨by rw [ha], hb⟩
      · rintro r w' ⟨rfl, hb⟩
        exact ⟨rfl, q, h.under hb, Ch2.of_below hb, .inl rfl⟩
theorem dstore_all (Q q : Nat) (most : Int) (b : List Int) (op : Nat) (base off v : Int) (hop : op < 256) (w : World) (hM : MaxIn w) (h : DM w Q q most b) :
    Calls Try.prog 16 #[.pointer (some ⟨Q, 0, none⟩), .int .u8 (op : Int), .int .i64 base, .int .i64 off, .int .i64 v] w (DOut Q q most w (.int .i64 (stR b op base off v).2) (stR b op base off v).1) := by
  unfold stR
  by_cases h1 : insW (op : Int) = 0 ∨ (op : Int) < 54
  · rw [if_pos h1]
    have hd : insW (op : Int) = 0 ∨ true ≠ decide (53 < (op : Int)) := by
      rcases h1 with h1 | h1
      · exact .inl h1
      · exact .inr (by rw [decide_eq_false (by omega)]; decide)
    refine (dstore_no Q op base off v 6 w (dplace_un Q op true base off hop hd w hM)).mono ?_
    rintro r w' ⟨rfl, hb⟩
    exact ⟨rfl, q, h.under hb, Ch2.of_below hb, .inl rfl⟩
  · rw [if_neg h1]
    obtain ⟨wd, hwd⟩ : ∃ wd : Nat, insW (op : Int) = (wd : Int) := ⟨(insW (op : Int)).toNat, by have := insW_cases op; omega⟩
    have hc := insW_cases op
    rw [hwd]
    have hpl := dplace_go Q q most b op wd true base off hop hwd (by omega) (by omega) (by rw [decide_eq_true (by omega)]) w hM h
    by_cases h2 : plE b.length base off wd ≠ 0
    · rw [if_pos h2]
      refine (dstore_no Q op base off v (plE b.length base off wd) w (hpl.mono ?_)).mono ?_
      · rintro r w' ⟨hb, ⟨_, rfl⟩ | ⟨h3, _⟩⟩
        · exact ⟨rfl, hb⟩
        · exact absurd h3 h2
      · rintro r w' ⟨rfl, hb⟩
        exact ⟨rfl, q, h.under hb, Ch2.of_below hb, .inl rfl⟩
    · rw [if_neg h2]
      have h3 : plE b.length base off wd = 0 := Classical.byContradiction h2
      have h4 := plE_zero h3
      have ha : base % 4294967296 + off = (plA base off : Int) := by unfold plA; omega
      refine (dstore_yes Q q most b op wd (plA base off) base off v (by omega) (by omega) w h (hpl.mono ?_)).mono ?_
      · rintro r w' ⟨hb, ⟨h5, _⟩ | ⟨_, rfl⟩⟩
        · exact absurd h3 h5
        · exact ⟨by rw [ha], hb⟩
      · rintro r w' ⟨rfl, hm, hb⟩
        exact ⟨rfl, q, hm, Ch2.of_chg hb, .inl rfl⟩
theorem dgrow_all (Q q n : Nat) (most x : Int) (b : List Int) (hb : b.length = 256 * n) (hm : (n : Int) ≤ most ∧ most ≤ 8) (w : World) (h : DM w Q q most b) :
    Calls Try.prog 18 #[.pointer (some ⟨Q, 0, none⟩), .int .i64 x] w (DOut Q q most w (.int .i64 (gwR b n most x).2.1) (gwR b n most x).1) := by
  unfold gwR
  have hx : x % 4294967296 = ((x % 4294967296).toNat : Int) := by omega
  by_cases h1 : most - n < x % 4294967296
  · rw [if_pos h1]
    refine (dgrow_no Q q n _ most x b hb hx hm (by omega) w h).mono ?_
    rintro r w' ⟨rfl, h2⟩
    exact ⟨rfl, q, h.under h2, Ch2.of_below h2, .inl rfl⟩
  · rw [if_neg h1]
    refine (dgrow_yes Q q n _ most x b hb hx hm (by omega) w h).mono ?_
    rintro r w' ⟨q', rfl, h2, h3, h4⟩
    exact ⟨rfl, q', h2, h3, h4⟩
theorem dbytes_all (Q q : Nat) (most : Int) (b : List Int) (a k : Int) (ha : a ≤ 9223372036854775807) (w : World) (h : DM w Q q most b) :
    Calls Try.prog 20 #[.pointer (some ⟨Q, 0, none⟩), .int .i64 a, .int .i64 k] w (DOut Q q most w (.tuple #[.string (byR b a k).1, .int .i64 (byR b a k).2]) b) := by
  unfold byR
  cases h1 : hasB b.length a k
  · refine (dbytes_no Q q most b a k ha h1 w h).mono ?_
    rintro r w' ⟨rfl, rfl⟩
    exact ⟨rfl, q, h, Ch2.refl _ _ _, .inl rfl⟩
  · obtain ⟨h2, h3, h4⟩ := hasB_true h1
    have e1 : a = (a.toNat : Int) := by omega
    have e2 : k = (k.toNat : Int) := by omega
    have := dbytes_yes Q q most b a.toNat k.toNat h4 w h
    rw [← e1, ← e2] at this
    refine this.mono ?_
    rintro r w' ⟨rfl, rfl⟩
    exact ⟨rfl, q, h, Ch2.refl _ _ _, .inl rfl⟩
theorem dput_all (Q q : Nat) (most : Int) (b : List Int) (a : Int) (s : ByteArray) (ha : a ≤ 9223372036854775807) (w : World) (h : DM w Q q most b) :
    Calls Try.prog 22 #[.pointer (some ⟨Q, 0, none⟩), .int .i64 a, .string s] w (DOut Q q most w (.int .i64 (puR b a s).2) (puR b a s).1) := by
  unfold puR
  cases h1 : hasB b.length a s.size
  · refine (dput_no Q q most b a s ha h1 w h).mono ?_
    rintro r w' ⟨rfl, rfl⟩
    exact ⟨rfl, q, h, Ch2.refl _ _ _, .inl rfl⟩
  · obtain ⟨h2, h3, h4⟩ := hasB_true h1
    have e1 : a = (a.toNat : Int) := by omega
    have := dput_yes Q q most b a.toNat s (by omega) w h
    rw [← e1] at this
    refine this.mono ?_
    rintro r w' ⟨rfl, hm, hb⟩
    exact ⟨rfl, q, hm, Ch2.of_chg hb, .inl rfl⟩
end Go.Proofs.Ytomiganjagjabaa
