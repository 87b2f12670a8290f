/-
  NestReads: the program's own nest.Read and the document's own NestRead answer the same.
-/
import Derived.Test.YtmbficofcmfmlaaDoorRNRd
import Derived.Test.YtmbficofcmfmlaaDoorRSame
namespace Go.Proofs.YtmbficofcmfmlaaDoor
open Go.RowKit

theorem tab_lt {w : World} (hT : TabIn w) : 1 < w.heap.size := by
  have hc := hT 0 (by omega)
  apply Nat.lt_of_not_le
  intro hle
  have : w.heap[1]? = none := Array.getElem?_eq_none hle
  simp [World.cell?, this] at hc
set_option maxHeartbeats 4000000 in
set_option maxRecDepth 1000000 in
theorem nreads_core (s : ByteArray) (K e : Int) (w : World)
    (HP : Hid (Calls Tryd.prog 15 #[.string s] w fun r w1 => ∃ (o : Option Addr) (n cap : Nat), r = .returned (.tuple #[.slice o n cap, .int .i64 K, .int .i64 e]) ∧ Below w.heap.size w w1 ∧ Hid (Calls Tryd.prog 16 #[.string s] w1 fun r w2 => ∃ (o2 : Option Addr) (n2 cap2 : Nat), r = .returned (.tuple #[.slice o2 n2 cap2, .int .i64 K, .int .i64 e]) ∧ Below w1.heap.size w1 w2 ∧ Hid (Calls Tryd.prog 17 #[.slice o n cap, .slice o2 n2 cap2] w2 fun r w3 => r = .returned (.bool true) ∧ Below w2.heap.size w2 w3)))) :
    Calls Tryd.prog 4 #[.string s] w fun r w' => r = .returned (.bool true) ∧ Below w.heap.size w w' := by
  go_enter Tryd.func4, Tryd.ntmps4
  go_wp2_with fail
  refine HP.out.mono ?_
  rintro r w1 ⟨o, n, cap, rfl, b1, HR⟩
  clear HP
  go_wp2_with fail
  refine HR.out.mono ?_
  rintro r w2 ⟨o2, n2, cap2, rfl, b2, HS⟩
  have HB : Hid (Below w.heap.size w w2) := b1.trans (b2.mono b1.size)
  clear HR b1 b2
  go_wp2_with fail
  refine HS.out.mono ?_
  rintro r w3 ⟨rfl, b3⟩
  go_wp2
  go_ret
  exact ⟨rfl, HB.out.trans (b3.mono HB.out.size)⟩
theorem nestReads_walk (a0 : ByteArray) (z0' : a0.data.toList.length ≤ reachBytes) (w : World) (hT : TabIn w) (hM : MaxIn w) :
    Calls Tryd.prog 4 #[.string a0] w fun r w' => r = .returned (.bool true) ∧ Below w.heap.size w w' := by
  have z0 : a0.size ≤ maxLen := by
    rw [Array.length_toList] at z0'
    have h1 : a0.size ≤ 140737488351232 := z0'
    unfold maxLen
    omega
  have ht0 := tab_lt hT
  have hP := nread_any a0 z0 w hT ht0
  have hR := fun w1 (b : Below w.heap.size w w1) => rnread_any a0 z0 w1 (hM.below b)
  generalize nRd 200 (nums a0) [] = R at hP hR
  by_cases h0 : R.1 = 0
  · refine nreads_core a0 ((a0.size : Int) - (R.2.2.length : Int)) 0 w (hP.mono ?_)
    rintro r w1 ⟨b1, h⟩
    rcases h with ⟨h, _⟩ | ⟨_, o, cap, L, rfl, hI, hL⟩
    · exact absurd h0 h
    refine ⟨o, L.length, cap, rfl, b1, (hR w1 b1).mono ?_⟩
    rintro r w2 ⟨b2, h⟩
    rcases h with ⟨h, _⟩ | ⟨_, o2, cap2, M, rfl, hI2, hM2⟩
    · exact absurd h0 h
    exact ⟨o2, M.length, cap2, rfl, b2, sameBody_any o o2 cap cap2 L M w2 (hI.LD.below b2) hI2.LD hI.capm.1 hI2.capm.1 hI.capm.2 (hL.trans hM2.symm)⟩
  · refine nreads_core a0 0 R.1 w (hP.mono ?_)
    rintro r w1 ⟨b1, h⟩
    rcases h with ⟨_, rfl⟩ | ⟨h, _⟩
    case inr => exact absurd h h0
    refine ⟨none, 0, 0, rfl, b1, (hR w1 b1).mono ?_⟩
    rintro r w2 ⟨b2, h⟩
    rcases h with ⟨_, rfl⟩ | ⟨h, _⟩
    case inr => exact absurd h h0
    exact ⟨none, 0, 0, rfl, b2, sameBody_any none none 0 0 [] [] w2 ⟨by simp, Or.inl rfl⟩ ⟨by simp, Or.inl rfl⟩ (by simp) (by simp) (by unfold maxLen; simp) rfl⟩

end Go.Proofs.YtmbficofcmfmlaaDoor
