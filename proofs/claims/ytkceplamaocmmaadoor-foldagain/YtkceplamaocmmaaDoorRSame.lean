/-
  The document's own SameBody of two bodies that are one.
-/
import Derived.Test.YtkceplamaocmmaaDoorNRow
import Derived.Deep.RegionWith
namespace Go.Proofs.YtkceplamaocmmaaDoor
open Go.RowKit

set_option maxHeartbeats 4000000 in
set_option maxRecDepth 1000000 in
theorem sameAll_core (b f b2 f2 cap cap2 n : Nat) (hn : n ≤ 9223372036854775807) (_hc1 : n ≤ cap) (_hc2 : n ≤ cap2) (L M : List InsD) (w : World) (hbw : b < w.heap.size) (hbw2 : b2 < w.heap.size) (HL : Hid (L.length = n)) (HM : Hid (M.length = n))
    (HC : Hid (∀ i (h : i < L.length), w.cell? ⟨b, f + i * 4, none⟩ = some (.int .u8 (L[i]).op) ∧ w.cell? ⟨b, f + i * 4 + 1, none⟩ = some (.int .i64 (L[i]).A) ∧ w.cell? ⟨b, f + i * 4 + 2, none⟩ = some (.int .i64 (L[i]).B) ∧ w.cell? ⟨b, f + i * 4 + 3, none⟩ = some (.slice (L[i]).o (L[i]).n (L[i]).cap)))
    (HC2 : Hid (∀ i (h : i < M.length), w.cell? ⟨b2, f2 + i * 4, none⟩ = some (.int .u8 (M[i]).op) ∧ w.cell? ⟨b2, f2 + i * 4 + 1, none⟩ = some (.int .i64 (M[i]).A) ∧ w.cell? ⟨b2, f2 + i * 4 + 2, none⟩ = some (.int .i64 (M[i]).B) ∧ w.cell? ⟨b2, f2 + i * 4 + 3, none⟩ = some (.slice (M[i]).o (M[i]).n (M[i]).cap)))
    (HSI : Hid (∀ i (h : i < L.length) (h2 : i < M.length) w', Below w.heap.size w w' → Calls Tryd.prog 11 #[.agg #[.int .u8 (L[i]).op, .int .i64 (L[i]).A, .int .i64 (L[i]).B, .slice (L[i]).o (L[i]).n (L[i]).cap], .agg #[.int .u8 (M[i]).op, .int .i64 (M[i]).A, .int .i64 (M[i]).B, .slice (M[i]).o (M[i]).n (M[i]).cap]] w' fun r w'' => r = .returned (.bool true) ∧ Below w'.heap.size w' w'')) :
    Calls Tryd.prog 10 #[.slice (some ⟨b, f, none⟩) n cap, .slice (some ⟨b2, f2, none⟩) n cap2, .func (.func 11) #[] #[]] w fun r w' => r = .returned (.bool true) ∧ Below w.heap.size w w' := by
  go_enter Tryd.func10, Tryd.ntmps10
  go_wp2
  go_loopw [15] (fun i wr => ∃ k : Nat, i = .int .i64 k ∧ k ≤ n ∧ Hid (Below w.heap.size w wr)) (fun i _ => n - (intOf i).toNat)
  case atStart => exact ⟨0, rfl, by omega, Below.refl _ _⟩
  case round =>
    obtain ⟨k, rfl, hk, HB⟩ := hrel
    by_cases hlt : k < n
    · have hkl : k < L.length := by rw [HL.out]; exact hlt
      have hkm : k < M.length := by rw [HM.out]; exact hlt
      obtain ⟨m0, m1, m2, m3⟩ := HC.out k hkl
      obtain ⟨p0, p1, p2, p3⟩ := HC2.out k hkm
      have e0 := HB.out.cell (p := ⟨b, f + k * 4, none⟩) hbw
      have e1 := HB.out.cell (p := ⟨b, f + k * 4 + 1, none⟩) hbw
      have e2 := HB.out.cell (p := ⟨b, f + k * 4 + 2, none⟩) hbw
      have e3 := HB.out.cell (p := ⟨b, f + k * 4 + 3, none⟩) hbw
      have q0 := HB.out.cell (p := ⟨b2, f2 + k * 4, none⟩) hbw2
      have q1 := HB.out.cell (p := ⟨b2, f2 + k * 4 + 1, none⟩) hbw2
      have q2 := HB.out.cell (p := ⟨b2, f2 + k * 4 + 2, none⟩) hbw2
      have q3 := HB.out.cell (p := ⟨b2, f2 + k * 4 + 3, none⟩) hbw2
      rw [m0] at e0
      rw [m1] at e1
      rw [m2] at e2
      rw [m3] at e3
      rw [p0] at q0
      rw [p1] at q1
      rw [p2] at q2
      rw [p3] at q3
      have hS := HSI.out k hkl hkm
      generalize L[k] = d at e0 e1 e2 e3 hS
      generalize M[k] = x at q0 q1 q2 q3 hS
      have HS : Hid (type_of% hS) := hS
      clear hS m0 m1 m2 m3 p0 p1 p2 p3
      have hki0 : (0 : Int) ≤ (k : Int) := by omega
      have hki1 : (k : Int) < (n : Int) := by omega
      go_wp2
      go_region_with (go_at_call 11; refine (HS.out _ HB.out.drew).mono ?_; rintro r w2 ⟨rfl, b2'⟩)
      all_goals
        have HB2 : Hid (Below w.heap.size w w2) := HB.out.drew.trans (b2'.mono HB.out.size)
        clear b2'
        go_wp2
        go_roundw
        case rel => exact ⟨k + 1, by go_num, by omega, HB2⟩
        case measure => simp [intOf]; omega
    · go_wp2
      go_ret
      exact ⟨rfl, HB.out⟩
set_option maxHeartbeats 4000000 in
set_option maxRecDepth 1000000 in
theorem sameAll_nil (o o2 : Option Addr) (cap cap2 : Nat) (w : World) :
    Calls Tryd.prog 10 #[.slice o 0 cap, .slice o2 0 cap2, .func (.func 11) #[] #[]] w fun r w' => r = .returned (.bool true) ∧ Below w.heap.size w w' := by
  go_enter Tryd.func10, Tryd.ntmps10
  go_wp2
  go_loopw [15] (fun i wr => i = .int .i64 0 ∧ wr = w) (fun _ _ => 0)
  case atStart => exact ⟨rfl, rfl⟩
  case round =>
    obtain ⟨rfl, rfl⟩ := hrel
    go_wp2
    go_ret
    exact ⟨rfl, Below.refl _ _⟩
set_option maxHeartbeats 2000000 in
set_option maxRecDepth 1000000 in
theorem sameBody_core (v u : Value) (w : World) (HS : Hid (Calls Tryd.prog 10 #[v, u, .func (.func 11) #[] #[]] w fun r w' => r = .returned (.bool true) ∧ Below w.heap.size w w')) :
    Calls Tryd.prog 6 #[v, u] w fun r w' => r = .returned (.bool true) ∧ Below w.heap.size w w' := by
  go_enter Tryd.func6, Tryd.ntmps6
  go_wp2_with fail
  refine HS.out.mono ?_
  rintro r w1 ⟨rfl, b⟩
  go_wp2
  go_ret
  exact ⟨rfl, b⟩
/-- Two bodies of the same values are the same. -/
theorem sameBody_any (o o2 : Option Addr) (cap cap2 : Nat) (L M : List InsD) (w : World) (h : LD w o L) (h2 : LD w o2 M) (hc : L.length ≤ cap) (hc2 : M.length ≤ cap2) (hm : cap ≤ maxLen) (hv : L.map InsD.val = M.map InsD.val) :
    Calls Tryd.prog 6 #[.slice o L.length cap, .slice o2 M.length cap2] w fun r w' => r = .returned (.bool true) ∧ Below w.heap.size w w' := by
  have hlm : L.length = M.length := by have := congrArg List.length hv; simpa using this
  refine sameBody_core _ _ w ?_
  rcases h.2 with h0 | ⟨b, f, rfl, hbw, hcl⟩
  · subst h0
    rw [← hlm]
    exact sameAll_nil o o2 cap cap2 w
  rcases h2.2 with h0 | ⟨b2, f2, rfl, hbw2, hcm⟩
  · subst h0
    rw [hlm]
    exact sameAll_nil _ o2 cap cap2 w
  rw [← hlm]
  unfold maxLen at hm
  refine sameAll_core b f b2 f2 cap cap2 L.length (by omega) hc (by omega) L M w hbw hbw2 rfl hlm.symm hcl hcm (fun i h1 h3 w' bb => ?_)
  have e : (L[i]).val = (M[i]).val := by
    have q1 : (L.map InsD.val)[i]? = some (L[i]).val := by rw [List.getElem?_map, List.getElem?_eq_getElem h1]; rfl
    have q2 : (M.map InsD.val)[i]? = some (M[i]).val := by rw [List.getElem?_map, List.getElem?_eq_getElem h3]; rfl
    rw [hv, q2] at q1
    exact (Option.some.inj q1).symm
  have ok1 := (h.1 _ (List.getElem_mem h1)).below bb
  have ok2 := (h2.1 _ (List.getElem_mem h3)).below bb
  generalize L[i] = d at e ok1
  generalize M[i] = x at e ok2
  obtain ⟨op, A, B, o1, n1, c1, xs⟩ := d
  obtain ⟨op', A', B', o1', n1', c1', xs'⟩ := x
  simp only [InsD.val, V4.mk.injEq] at e
  obtain ⟨rfl, rfl, rfl, rfl⟩ := e
  have l1 := ok1.lj.1
  have l2 := ok2.lj.1
  simp only at l1 l2
  subst l1
  subst l2
  have m1 := ok1.most
  have m2 := ok2.most
  unfold maxLen at m1 m2
  simp only at m1 m2
  exact same_any op A B o1 o1' xs.length c1 c1' w' (fun w2 b2 => eq_any o1 o1' xs xs.length c1 c1' ok1.cap ok2.cap (by omega) (by omega) w2 (ok1.lj.below b2) (ok2.lj.below b2))

end Go.Proofs.YtkceplamaocmmaaDoor
