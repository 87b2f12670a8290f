/-
  Both memories, call by call: what each call says, and what the bytes are behind it, as functions of the bytes.
-/
import Derived.Test.YtomiganjagjabaaMD1
import Derived.Test.YtomiganjagjabaaMM11
import Derived.Test.YtomiganjagjabaaMM9
namespace Go.Proofs.Ytomiganjagjabaa
open Go.RowKit

theorem plE_zero {K base off wd : Int} (h : plE K base off wd = 0) : 0 ≤ off ∧ base % 4294967296 + off + wd ≤ K := by
  unfold plE at h
  split at h
  · cases h
  · split at h
    · cases h
    · omega
theorem plE_cases (K base off wd : Int) : plE K base off wd = 0 ∨ plE K base off wd = 1 ∨ plE K base off wd = 23 := by
  unfold plE
  split
  · exact .inr (.inl rfl)
  · split
    · exact .inr (.inr rfl)
    · exact .inl rfl
/-- Where a call of a place goes. -/
def plA (base off : Int) : Nat := (base % 4294967296 + off).toNat
/-- What Load says. -/
def ldR (b : List Int) (op base off : Int) : Int × Int :=
  if insW op = 0 ∨ ¬ op < 54 then (0, 6) else if plE b.length base off (insW op) ≠ 0 then (0, plE b.length base off (insW op)) else (ldV op (insW op).toNat (numN ((b.drop (plA base off)).take (insW op).toNat)), 0)
/-- What Store leaves, and what it says. -/
def stR (b : List Int) (op base off v : Int) : List Int × Int :=
  if insW op = 0 ∨ op < 54 then (b, 6) else if plE b.length base off (insW op) ≠ 0 then (b, plE b.length base off (insW op)) else (splice b (plA base off) ((by8 (u64 v)).take (insW op).toNat), 0)
/-- What Grow leaves, and what it says. -/
def gwR (b : List Int) (n : Nat) (most x : Int) : List Int × Int × Nat :=
  if most - n < x % 4294967296 then (b, -1, n) else (b ++ List.replicate (256 * (x % 4294967296).toNat) 0, n, n + (x % 4294967296).toNat)
/-- What Bytes says. -/
def byR (b : List Int) (a k : Int) : ByteArray × Int :=
  if hasB b.length a k then (strOfNums ((b.drop a.toNat).take k.toNat), 0) else (⟨#[]⟩, 23)
/-- What Put leaves, and what it says. -/
def puR (b : List Int) (a : Int) (s : ByteArray) : List Int × Int :=
  if hasB b.length a s.size then (splice b a.toNat (nums s), 0) else (b, 23)
theorem hasB_true {K : Nat} {a k : Int} (h : hasB K a k = true) : 0 ≤ a ∧ 0 ≤ k ∧ a.toNat + k.toNat ≤ K := by
  unfold hasB at h
  have := of_decide_eq_true h
  omega
theorem Ch2.of_below {P g : Nat} {w w' : World} (h : Below w.heap.size w w') : Ch2 P g w w' := ⟨h.os, h.tape, h.output, h.size, fun k hk _ _ => h.block k hk⟩
theorem Ch2.of_chg {P g : Nat} {w w' : World} (h : Chg g w w') : Ch2 P g w w' := ⟨h.os, h.tape, h.output, h.size, fun k hk _ h2 => h.block k hk h2⟩
theorem Ch2.refl (P g : Nat) (w : World) : Ch2 P g w w := Ch2.of_below (Below.refl _ _)
/-- A call of the program's memory: what it says, and what is left. -/
def MOut (P g : Nat) (most : Int) (w : World) (v : Value) (n' : Nat) (b' : List Int) (r : Ending) (w' : World) : Prop := r = .returned v ∧ ∃ g', MB w' P g' n' most b' ∧ Ch2 P g w w' ∧ (g' = g ∨ w.heap.size ≤ g')
/-- A call of the document's memory: what it says, and what is left. -/
def DOut (Q q : Nat) (most : Int) (w : World) (v : Value) (b' : List Int) (r : Ending) (w' : World) : Prop := r = .returned v ∧ ∃ q', DM w' Q q' most b' ∧ Ch2 Q q w w' ∧ (q' = q ∨ w.heap.size ≤ q')

theorem mload_all (P g n : Nat) (most : Int) (b : List Int) (op base off : Int) (w : World) (h : MB w P g n most b) :
    Calls Try.prog 13 #[.pointer (some ⟨P, 0, none⟩), .int .u8 op, .int .i64 base, .int .i64 off] w (MOut P g most w (.tuple #[.int .i64 (ldR b op base off).1, .int .i64 (ldR b op base off).2]) n b) := by
  unfold ldR
  by_cases h1 : insW op = 0 ∨ ¬ op < 54
  · rw [if_pos h1]
    refine (load_un P op base off h1 w).mono ?_
    rintro r w' ⟨rfl, rfl⟩
    exact ⟨rfl, g, h, Ch2.refl _ _ _, .inl rfl⟩
  · rw [if_neg h1]
    obtain ⟨wd, hwd⟩ : ∃ wd : Nat, insW op = (wd : Int) := ⟨(insW op).toNat, by have := insW_cases op; omega⟩
    have hc := insW_cases op
    rw [hwd]
    by_cases h2 : plE b.length base off wd ≠ 0
    · rw [if_pos h2]
      refine (load_no P g n most b op base off wd hwd (by omega) (by omega) (by omega) h2 w h).mono ?_
      rintro r w' ⟨rfl, rfl⟩
      exact ⟨rfl, g, h, Ch2.refl _ _ _, .inl rfl⟩
    · rw [if_neg h2]
      have h3 : plE b.length base off wd = 0 := Classical.byContradiction h2
      have h4 := plE_zero h3
      have ha : base % 4294967296 + off = (plA base off : Int) := by unfold plA; omega
      refine (load_yes P g n most b op base off wd (plA base off) hwd (by omega) (by omega) h3 ha w h).mono ?_
      rintro r w' ⟨rfl, hb⟩
      exact ⟨rfl, g, h.under hb, Ch2.of_below hb, .inl rfl⟩
theorem mstore_all (P g n : Nat) (most : Int) (b : List Int) (op base off v : Int) (w : World) (h : MB w P g n most b) :
    Calls Try.prog 15 #[.pointer (some ⟨P, 0, none⟩), .int .u8 op, .int .i64 base, .int .i64 off, .int .i64 v] w (MOut P g most w (.int .i64 (stR b op base off v).2) n (stR b op base off v).1) := by
  unfold stR
  by_cases h1 : insW op = 0 ∨ op < 54
  · rw [if_pos h1]
    refine (store_un P op base off v h1 w).mono ?_
    rintro r w' ⟨rfl, rfl⟩
    exact ⟨rfl, g, h, Ch2.refl _ _ _, .inl rfl⟩
  · rw [if_neg h1]
    obtain ⟨wd, hwd⟩ : ∃ wd : Nat, insW op = (wd : Int) := ⟨(insW op).toNat, by have := insW_cases op; omega⟩
    have hc := insW_cases op
    rw [hwd]
    by_cases h2 : plE b.length base off wd ≠ 0
    · rw [if_pos h2]
      refine (store_no P g n most b op base off v wd hwd (by omega) (by omega) (by omega) h2 w h).mono ?_
      rintro r w' ⟨rfl, rfl⟩
      exact ⟨rfl, g, h, Ch2.refl _ _ _, .inl rfl⟩
    · rw [if_neg h2]
      have h3 : plE b.length base off wd = 0 := Classical.byContradiction h2
      have h4 := plE_zero h3
      have ha : base % 4294967296 + off = (plA base off : Int) := by unfold plA; omega
      refine (store_yes P g n most b op base off v wd (plA base off) hwd (by omega) (by omega) (by omega) h3 ha w h).mono ?_
      rintro r w' ⟨rfl, hm, hb⟩
      exact ⟨rfl, g, hm, Ch2.of_chg hb, .inl rfl⟩
theorem mgrow_all (P g n : Nat) (most x : Int) (b : List Int) (hm : (n : Int) ≤ most ∧ most ≤ 8) (w : World) (h : MB w P g n most b) :
    Calls Try.prog 17 #[.pointer (some ⟨P, 0, none⟩), .int .i64 x] w (MOut P g most w (.int .i64 (gwR b n most x).2.1) (gwR b n most x).2.2 (gwR b n most x).1) := by
  unfold gwR
  have hx : x % 4294967296 = ((x % 4294967296).toNat : Int) := by omega
  by_cases h1 : most - n < x % 4294967296
  · rw [if_pos h1]
    refine (mgrow_no P g n _ most x b hx hm (by omega) w h).mono ?_
    rintro r w' ⟨rfl, rfl⟩
    exact ⟨rfl, g, h, Ch2.refl _ _ _, .inl rfl⟩
  · rw [if_neg h1]
    refine (mgrow_yes P g n _ most x b hx hm (by omega) w h).mono ?_
    rintro r w' ⟨g', rfl, h2, h3, h4⟩
    exact ⟨rfl, g', h2, h3, h4⟩
theorem mbytes_all (P g n : Nat) (most : Int) (b : List Int) (a k : Int) (ha : a ≤ 9223372036854775807) (w : World) (h : MB w P g n most b) :
    Calls Try.prog 19 #[.pointer (some ⟨P, 0, none⟩), .int .i64 a, .int .i64 k] w (MOut P g most w (.tuple #[.string (byR b a k).1, .int .i64 (byR b a k).2]) n b) := by
  unfold byR
  cases h1 : hasB b.length a k
  · refine (mbytes_no P g n most b a k ha h1 w h).mono ?_
    rintro r w' ⟨rfl, rfl⟩
    exact ⟨rfl, g, h, Ch2.refl _ _ _, .inl rfl⟩
  · obtain ⟨h2, h3, h4⟩ := hasB_true h1
    have e1 : a = (a.toNat : Int) := by omega
    have e2 : k = (k.toNat : Int) := by omega
    have := mbytes_yes P g n most b a.toNat k.toNat h4 w h
    rw [← e1, ← e2] at this
    refine this.mono ?_
    rintro r w' ⟨rfl, hb⟩
    exact ⟨rfl, g, h.under hb, Ch2.of_below hb, .inl rfl⟩
theorem mput_all (P g n : Nat) (most : Int) (b : List Int) (a : Int) (s : ByteArray) (ha : a ≤ 9223372036854775807) (w : World) (h : MB w P g n most b) :
    Calls Try.prog 21 #[.pointer (some ⟨P, 0, none⟩), .int .i64 a, .string s] w (MOut P g most w (.int .i64 (puR b a s).2) n (puR b a s).1) := by
  unfold puR
  cases h1 : hasB b.length a s.size
  · refine (mput_no P g n most b a ha s h1 w h).mono ?_
    rintro r w' ⟨rfl, rfl⟩
    exact ⟨rfl, g, h, Ch2.refl _ _ _, .inl rfl⟩
  · obtain ⟨h2, h3, h4⟩ := hasB_true h1
    have e1 : a = (a.toNat : Int) := by omega
    have := mput_yes P g n most b a.toNat s (by omega) w h
    rw [← e1] at this
    refine this.mono ?_
    rintro r w' ⟨rfl, hm, hb⟩
    exact ⟨rfl, g, hm, Ch2.of_chg hb, .inl rfl⟩
/-- Which call a step is. -/
def stpN (x : Int) : Nat := if x.tmod 7 < 0 then (x.tmod 7 + 7).toNat else (x.tmod 7).toNat
theorem stpN_lt (x : Int) : stpN x < 7 := by
  have h1 : x.tmod 7 < 7 := Int.tmod_lt_of_pos x (by decide)
  unfold stpN
  split <;> omega
set_option maxHeartbeats 1000000 in
set_option maxRecDepth 1000000 in
theorem rest7 (x : Int) (w : World) : Calls Try.prog 26 #[.int .i64 x, .int .i64 7] w fun r w' => r = .returned (.int .i64 (stpN x : Int)) ∧ w' = w := by
  obtain ⟨r, hr⟩ : ∃ r, r = x.tmod 7 := ⟨_, rfl⟩
  have h1 : r < 7 := by rw [hr]; exact Int.tmod_lt_of_pos x (by decide)
  have h2 : -7 < r := by rw [hr]; exact Int.lt_tmod_of_pos x (by decide)
  unfold stpN
  rw [← hr]
  have hr2 := hr.symm
  clear hr
  by_cases h : r < 0
  · rw [if_pos h]
    have HE : Hid (((r + 7).toNat : Int) = r + 7) := by unfold Hid; omega
    rw [HE.out]
    go_enter Try.func26, Try.ntmps26
    go_wp2
    go_ret
    exact ⟨rfl, rfl⟩
  · rw [if_neg h]
    have HE : Hid ((r.toNat : Int) = r) := by unfold Hid; omega
    rw [HE.out]
    go_enter Try.func26, Try.ntmps26
    go_wp2
    go_ret
    exact ⟨rfl, rfl⟩
set_option maxHeartbeats 1000000 in
set_option maxRecDepth 1000000 in
theorem step7 (x : Int) (w : World) : Calls Try.prog 12 #[.int .i64 x, .int .i64 7] w fun r w' => r = .returned (.int .i64 (stpN x : Int)) ∧ w' = w := by
  have HR := rest7 x w
  go_enter Try.func12, Try.ntmps12
  go_wp2_with (go_at_call 26; refine HR.mono ?_; rintro r w1 ⟨rfl, rfl⟩)
  go_ret
  exact ⟨rfl, rfl⟩
end Go.Proofs.Ytomiganjagjabaa
