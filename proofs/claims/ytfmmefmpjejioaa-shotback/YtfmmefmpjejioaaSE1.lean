/-
  The document's own comparisons of images and of states.
-/
import Derived.Test.YtfmmefmpjejioaaSW5
import Derived.Deep.RegionWith
namespace Go.Proofs.Ytfmmefmpjejioaa
open Go.RowKit

theorem take_neK {xs ys : List Int} {k : Nat} (h1 : k < xs.length) (h2 : k < ys.length) (h : xs[k] ≠ ys[k]) : xs ≠ ys := fun e => h (by subst e; rfl)
theorem take_eqK {xs ys : List Int} {k : Nat} (h1 : k < xs.length) (h2 : k < ys.length) (h : xs.take k = ys.take k) (e : xs[k] = ys[k]) : xs.take (k + 1) = ys.take (k + 1) := by
  rw [List.take_succ_eq_append_getElem h1, List.take_succ_eq_append_getElem h2, h, e]
theorem take_neMK {α β : Type} (f : α → β) {xs ys : List α} {k : Nat} (h1 : k < xs.length) (h2 : k < ys.length) (h : f xs[k] ≠ f ys[k]) : xs.map f ≠ ys.map f := fun e => h (by
  have q1 : (xs.map f)[k]? = some (f xs[k]) := by rw [List.getElem?_map, List.getElem?_eq_getElem h1]; rfl
  have q2 : (ys.map f)[k]? = some (f ys[k]) := by rw [List.getElem?_map, List.getElem?_eq_getElem h2]; rfl
  rw [e, q2] at q1
  exact (Option.some.inj q1).symm)
theorem take_eqMK {α β : Type} (f : α → β) {xs ys : List α} {k : Nat} (h1 : k < xs.length) (h2 : k < ys.length) (h : (xs.take k).map f = (ys.take k).map f) (e : f xs[k] = f ys[k]) : (xs.take (k + 1)).map f = (ys.take (k + 1)).map f := by
  rw [List.take_succ_eq_append_getElem h1, List.take_succ_eq_append_getElem h2, List.map_append, List.map_append, h, List.map_cons, List.map_cons, e]
theorem NumD.ok.at1K {k : IntKind} {w0 : World} {d : NumD} {N : Nat} (h : d.ok k w0) (hN : w0.heap.size ≤ N) : d.xs = [] ∨ ∃ b f, d.o = some ⟨b, f, none⟩ ∧ b < N ∧ ∀ i (h : i < d.xs.length) r, r < 1 → w0.cell? ⟨b, f + i * 1 + r, none⟩ = ([Value.int k d.xs[i]])[r]? := by
  rcases h.at' with h0 | ⟨a, h1, h2, h3⟩
  · left
    have := h.len
    rw [h0] at this
    exact List.length_eq_zero_iff.1 this
  · rcases Nat.eq_zero_or_pos d.n with h0 | h0
    · left
      have := h.len
      rw [h0] at this
      exact List.length_eq_zero_iff.1 this
    · right
      obtain ⟨b, f, sp⟩ := a
      have hc0 := h3 0 h0
      have hsp : sp = none := by simpa [Addr.add] using World.cell?_spot hc0
      subst hsp
      refine ⟨b, f, h1, by have h2 : b < w0.heap.size := h2; omega, fun i hi r hr => ?_⟩
      obtain rfl : r = 0 := by omega
      have hadd : (⟨b, f, none⟩ : Addr).add i = ⟨b, f + i, none⟩ := by unfold Addr.add; split <;> simp_all
      have := h3 i (by rw [← h.len]; exact hi)
      rw [hadd] at this
      rw [Nat.mul_one, Nat.add_zero, this, List.getD_eq_getElem?_getD, List.getElem?_eq_getElem hi]
      rfl
set_option maxHeartbeats 4000000 in
set_option maxRecDepth 1000000 in
theorem eqC_intK (w : World) (o1 o2 : Option Addr) (n1 k1 n2 k2 N1 N2 : Nat) (xs ys : List Int) (r1 : xs = [] ∨ ∃ b f, o1 = some ⟨b, f, none⟩ ∧ b < N1 ∧ ∀ i (h : i < xs.length) r, r < 1 → w.cell? ⟨b, f + i * 1 + r, none⟩ = ([Value.int .i64 xs[i]])[r]?) (r2 : ys = [] ∨ ∃ b f, o2 = some ⟨b, f, none⟩ ∧ b < N2 ∧ ∀ i (h : i < ys.length) r, r < 1 → w.cell? ⟨b, f + i * 1 + r, none⟩ = ([Value.int .i64 ys[i]])[r]?) (l1 : xs.length = n1) (l2 : ys.length = n2) (c1 : n1 ≤ k1) (c2 : n2 ≤ k2) (m1 : k1 ≤ 9223372036854775807) (_m2 : k2 ≤ 9223372036854775807) :
    Calls Try.prog 23 #[.slice o1 n1 k1, .slice o2 n2 k2] w fun r w' => r = .returned (.bool (decide (xs = ys))) ∧ w' = w := by
  by_cases hn : n1 = n2
  · subst hn
    have HL1 : Hid (xs.length = n1) := l1
    have HL2 : Hid (ys.length = n1) := l2
    rcases r1 with rfl | ⟨b, f, rfl, _, h1⟩
    · have h0 : n1 = 0 := by rw [← l1]; rfl
      subst h0
      have hy : ys = [] := List.length_eq_zero_iff.1 l2
      subst hy
      clear l1 l2 r2
      go_enter Try.func23, Try.ntmps23
      go_wp2
      go_loop [14] (fun i => i = .int .i64 0) (fun _ => 0)
      case atStart => rfl
      case round =>
        subst hrel
        go_wp2
        go_ret
        exact ⟨rfl, rfl⟩
    rcases r2 with rfl | ⟨b2, f2, rfl, _, h2⟩
    · have h0 : n1 = 0 := by rw [← l2]; rfl
      subst h0
      have hy : xs = [] := List.length_eq_zero_iff.1 l1
      subst hy
      clear l1 l2 h1
      go_enter Try.func23, Try.ntmps23
      go_wp2
      go_loop [14] (fun i => i = .int .i64 0) (fun _ => 0)
      case atStart => rfl
      case round =>
        subst hrel
        go_wp2
        go_ret
        exact ⟨rfl, rfl⟩
    have H1 : Hid (type_of% h1) := h1
    have H2 : Hid (type_of% h2) := h2
    clear h1 h2 l1 l2
    go_enter Try.func23, Try.ntmps23
    go_wp2
    go_loop [14] (fun i => ∃ k : Nat, i = .int .i64 k ∧ k ≤ n1 ∧ Hid (xs.take k = ys.take k)) (fun i => n1 - (intOf i).toNat)
    case atStart => exact ⟨0, rfl, by omega, by unfold Hid; rfl⟩
    case round =>
      obtain ⟨k, rfl, hk, HT⟩ := hrel
      by_cases hlt : k < n1
      · have hx : k < xs.length := by rw [HL1.out]; exact hlt
        have hy : k < ys.length := by rw [HL2.out]; exact hlt
        have e1 : w.cell? ⟨b, f + k, none⟩ = some (.int .i64 xs[k]) := by
          have := H1.out k hx 0 (by omega)
          rw [Nat.mul_one, Nat.add_zero] at this
          rw [this]
          rfl
        have e2 : w.cell? ⟨b2, f2 + k, none⟩ = some (.int .i64 ys[k]) := by
          have := H2.out k hy 0 (by omega)
          rw [Nat.mul_one, Nat.add_zero] at this
          rw [this]
          rfl
        have HN : Hid (xs[k] ≠ ys[k] → xs ≠ ys) := take_neK hx hy
        have HE : Hid (xs[k] = ys[k] → xs.take (k + 1) = ys.take (k + 1)) := take_eqK hx hy HT.out
        generalize xs[k] = x at e1 HN HE
        generalize ys[k] = y at e2 HN HE
        have hki0 : (0 : Int) ≤ (k : Int) := by omega
        have hki1 : (k : Int) < (n1 : Int) := by omega
        clear HT hx hy
        by_cases hxy : x = y
        · subst hxy
          have HE2 : Hid (xs.take (k + 1) = ys.take (k + 1)) := HE.out rfl
          clear HE HN
          go_wp2
          go_round
          case rel => exact ⟨k + 1, by go_num, by omega, HE2⟩
          case measure => simp [intOf]; omega
        · have hb1 : (x == y) = false := beq_eq_false_iff_ne.2 hxy
          have hb2 : (x != y) = true := by rw [bne, hb1]; rfl
          have HD : Hid (decide (xs = ys) = false) := by unfold Hid; rw [decide_eq_false_iff_not]; exact HN.out hxy
          clear HE HN hxy
          go_wp2
          go_ret
          exact ⟨by rw [HD.out]; rfl, rfl⟩
      · have HD : Hid (decide (xs = ys) = true) := by
          have h := HT.out
          rw [List.take_of_length_le (by rw [HL1.out]; omega), List.take_of_length_le (by rw [HL2.out]; omega)] at h
          unfold Hid
          rw [decide_eq_true_eq]
          exact h
        go_wp2
        go_ret
        exact ⟨by rw [HD.out]; rfl, rfl⟩
  · have HD : Hid (decide (xs = ys) = false) := by
      unfold Hid
      rw [decide_eq_false_iff_not]
      intro e
      exact hn (by rw [← l1, ← l2, e])
    have hb1 : ((n1 : Int) == (n2 : Int)) = false := by rw [beq_eq_false_iff_ne]; omega
    have hb2 : ((n1 : Int) != (n2 : Int)) = true := by rw [bne, hb1]; rfl
    clear r1 r2 l1 l2 hn
    go_enter Try.func23, Try.ntmps23
    go_wp2
    go_ret
    exact ⟨by rw [HD.out]; rfl, rfl⟩
theorem eqB_intK (w : World) (c d : NumD) (hc : c.ok .i64 w) (hd : d.ok .i64 w) :
    Calls Try.prog 23 #[.slice c.o c.n c.cap, .slice d.o d.n d.cap] w fun r w' => r = .returned (.bool (decide (c.xs = d.xs))) ∧ w' = w := by
  have m1 := hc.most
  have m2 := hd.most
  unfold maxLen at m1 m2
  exact eqC_intK w c.o d.o c.n c.cap d.n d.cap _ _ c.xs d.xs (hc.at1K (Nat.le_refl _)) (hd.at1K (Nat.le_refl _)) hc.len hd.len hc.le hd.le (by omega) (by omega)
set_option maxHeartbeats 4000000 in
set_option maxRecDepth 1000000 in
theorem eqC_i64K (w : World) (o1 o2 : Option Addr) (n1 k1 n2 k2 N1 N2 : Nat) (xs ys : List Int) (r1 : xs = [] ∨ ∃ b f, o1 = some ⟨b, f, none⟩ ∧ b < N1 ∧ ∀ i (h : i < xs.length) r, r < 1 → w.cell? ⟨b, f + i * 1 + r, none⟩ = ([Value.int .i64 xs[i]])[r]?) (r2 : ys = [] ∨ ∃ b f, o2 = some ⟨b, f, none⟩ ∧ b < N2 ∧ ∀ i (h : i < ys.length) r, r < 1 → w.cell? ⟨b, f + i * 1 + r, none⟩ = ([Value.int .i64 ys[i]])[r]?) (l1 : xs.length = n1) (l2 : ys.length = n2) (c1 : n1 ≤ k1) (c2 : n2 ≤ k2) (m1 : k1 ≤ 9223372036854775807) (_m2 : k2 ≤ 9223372036854775807) :
    Calls Try.prog 24 #[.slice o1 n1 k1, .slice o2 n2 k2] w fun r w' => r = .returned (.bool (decide (xs = ys))) ∧ w' = w := by
  by_cases hn : n1 = n2
  · subst hn
    have HL1 : Hid (xs.length = n1) := l1
    have HL2 : Hid (ys.length = n1) := l2
    rcases r1 with rfl | ⟨b, f, rfl, _, h1⟩
    · have h0 : n1 = 0 := by rw [← l1]; rfl
      subst h0
      have hy : ys = [] := List.length_eq_zero_iff.1 l2
      subst hy
      clear l1 l2 r2
      go_enter Try.func24, Try.ntmps24
      go_wp2
      go_loop [14] (fun i => i = .int .i64 0) (fun _ => 0)
      case atStart => rfl
      case round =>
        subst hrel
        go_wp2
        go_ret
        exact ⟨rfl, rfl⟩
    rcases r2 with rfl | ⟨b2, f2, rfl, _, h2⟩
    · have h0 : n1 = 0 := by rw [← l2]; rfl
      subst h0
      have hy : xs = [] := List.length_eq_zero_iff.1 l1
      subst hy
      clear l1 l2 h1
      go_enter Try.func24, Try.ntmps24
      go_wp2
      go_loop [14] (fun i => i = .int .i64 0) (fun _ => 0)
      case atStart => rfl
      case round =>
        subst hrel
        go_wp2
        go_ret
        exact ⟨rfl, rfl⟩
    have H1 : Hid (type_of% h1) := h1
    have H2 : Hid (type_of% h2) := h2
    clear h1 h2 l1 l2
    go_enter Try.func24, Try.ntmps24
    go_wp2
    go_loop [14] (fun i => ∃ k : Nat, i = .int .i64 k ∧ k ≤ n1 ∧ Hid (xs.take k = ys.take k)) (fun i => n1 - (intOf i).toNat)
    case atStart => exact ⟨0, rfl, by omega, by unfold Hid; rfl⟩
    case round =>
      obtain ⟨k, rfl, hk, HT⟩ := hrel
      by_cases hlt : k < n1
      · have hx : k < xs.length := by rw [HL1.out]; exact hlt
        have hy : k < ys.length := by rw [HL2.out]; exact hlt
        have e1 : w.cell? ⟨b, f + k, none⟩ = some (.int .i64 xs[k]) := by
          have := H1.out k hx 0 (by omega)
          rw [Nat.mul_one, Nat.add_zero] at this
          rw [this]
          rfl
        have e2 : w.cell? ⟨b2, f2 + k, none⟩ = some (.int .i64 ys[k]) := by
          have := H2.out k hy 0 (by omega)
          rw [Nat.mul_one, Nat.add_zero] at this
          rw [this]
          rfl
        have HN : Hid (xs[k] ≠ ys[k] → xs ≠ ys) := take_neK hx hy
        have HE : Hid (xs[k] = ys[k] → xs.take (k + 1) = ys.take (k + 1)) := take_eqK hx hy HT.out
        generalize xs[k] = x at e1 HN HE
        generalize ys[k] = y at e2 HN HE
        have hki0 : (0 : Int) ≤ (k : Int) := by omega
        have hki1 : (k : Int) < (n1 : Int) := by omega
        clear HT hx hy
        by_cases hxy : x = y
        · subst hxy
          have HE2 : Hid (xs.take (k + 1) = ys.take (k + 1)) := HE.out rfl
          clear HE HN
          go_wp2
          go_round
          case rel => exact ⟨k + 1, by go_num, by omega, HE2⟩
          case measure => simp [intOf]; omega
        · have hb1 : (x == y) = false := beq_eq_false_iff_ne.2 hxy
          have hb2 : (x != y) = true := by rw [bne, hb1]; rfl
          have HD : Hid (decide (xs = ys) = false) := by unfold Hid; rw [decide_eq_false_iff_not]; exact HN.out hxy
          clear HE HN hxy
          go_wp2
          go_ret
          exact ⟨by rw [HD.out]; rfl, rfl⟩
      · have HD : Hid (decide (xs = ys) = true) := by
          have h := HT.out
          rw [List.take_of_length_le (by rw [HL1.out]; omega), List.take_of_length_le (by rw [HL2.out]; omega)] at h
          unfold Hid
          rw [decide_eq_true_eq]
          exact h
        go_wp2
        go_ret
        exact ⟨by rw [HD.out]; rfl, rfl⟩
  · have HD : Hid (decide (xs = ys) = false) := by
      unfold Hid
      rw [decide_eq_false_iff_not]
      intro e
      exact hn (by rw [← l1, ← l2, e])
    have hb1 : ((n1 : Int) == (n2 : Int)) = false := by rw [beq_eq_false_iff_ne]; omega
    have hb2 : ((n1 : Int) != (n2 : Int)) = true := by rw [bne, hb1]; rfl
    clear r1 r2 l1 l2 hn
    go_enter Try.func24, Try.ntmps24
    go_wp2
    go_ret
    exact ⟨by rw [HD.out]; rfl, rfl⟩
theorem eqB_i64K (w : World) (c d : NumD) (hc : c.ok .i64 w) (hd : d.ok .i64 w) :
    Calls Try.prog 24 #[.slice c.o c.n c.cap, .slice d.o d.n d.cap] w fun r w' => r = .returned (.bool (decide (c.xs = d.xs))) ∧ w' = w := by
  have m1 := hc.most
  have m2 := hd.most
  unfold maxLen at m1 m2
  exact eqC_i64K w c.o d.o c.n c.cap d.n d.cap _ _ c.xs d.xs (hc.at1K (Nat.le_refl _)) (hd.at1K (Nat.le_refl _)) hc.len hd.len hc.le hd.le (by omega) (by omega)
set_option maxHeartbeats 2000000 in
set_option maxRecDepth 1000000 in
theorem rest_anyK (n m k : Int) (_hm0 : 0 < m) (_hm1 : m ≤ 100000000) (hk : n % m = k) (_hn0 : -9223372036854775808 ≤ n) (_hn1 : n ≤ 9223372036854775807) (w : World) :
    Calls Try.prog 11 #[.int .i64 n, .int .i64 m] w fun e w' => e = .returned (.int .i64 k) ∧ w' = w := by
  have ht : n.tmod m = if 0 ≤ n ∨ n % m = 0 then n % m else n % m - m := by
    rw [Int.tmod_eq_emod]
    have hd : (m ∣ n) ↔ n % m = 0 := Int.dvd_iff_emod_eq_zero
    by_cases h1 : 0 ≤ n ∨ n % m = 0
    · rw [if_pos h1, if_pos (by rcases h1 with h1 | h1; exact Or.inl h1; exact Or.inr (hd.2 h1))]
      omega
    · rw [if_neg h1, if_neg (by intro h; apply h1; rcases h with h | h; exact Or.inl h; exact Or.inr (hd.1 h))]
      omega
  have h0 := Int.emod_nonneg n (b := m) (by omega)
  have h1 := Int.emod_lt_of_pos n _hm0
  rw [hk] at h0 h1 ht
  obtain ⟨t, htt⟩ : ∃ t, n.tmod m = t := ⟨_, rfl⟩
  rw [htt] at ht
  by_cases hneg : t < 0
  · have e : t + m = k := by
      split at ht <;> omega
    have e' : k = t + m := e.symm
    subst e'
    have hlo : -100000000 ≤ t := by omega
    clear ht hk h0 h1
    go_enter Try.func11, Try.ntmps11
    go_wp2
    go_ret
    exact ⟨rfl, rfl⟩
  · have e : t = k := by
      split at ht <;> omega
    subst e
    clear ht hk
    go_enter Try.func11, Try.ntmps11
    go_wp2
    go_ret
    exact ⟨rfl, rfl⟩
set_option maxHeartbeats 2000000 in
set_option maxRecDepth 1000000 in
theorem sameImage_any (x y : ImgD) (w : World) (hx : x.ok w) (hy : y.ok w) :
    Calls Try.prog 8 #[x.v, y.v] w fun r w' => ∃ e : Bool, r = .returned (.bool e) ∧ (e = true ↔ x.val = y.val) ∧ Below w.heap.size w w' := by
  obtain ⟨m1, t1, g1⟩ := x
  obtain ⟨m2, t2, g2⟩ := y
  have bA : Below w.heap.size w ((w.alloc (.cells #[.string m1, .slice t1.o t1.n t1.cap, .slice g1.o g1.n g1.cap] 25)).alloc (.cells #[.string m2, .slice t2.o t2.n t2.cap, .slice g2.o g2.n g2.cap] 25)) := ((Below.refl _ _).alloc (Nat.le_refl _) _).alloc (by simp) _
  have HBA : Hid (type_of% bA) := bA
  have hx2 := hx.below bA
  have hy2 := hy.below bA
  obtain ⟨c, hc⟩ : ∃ c, c = decide (t1.xs = t2.xs) := ⟨_, rfl⟩
  obtain ⟨d, hd⟩ : ∃ d, d = decide (g1.xs = g2.xs) := ⟨_, rfl⟩
  have HE1 : Hid (type_of% (eqB_intK _ t1 t2 hx2.2.1 hy2.2.1)) := eqB_intK _ t1 t2 hx2.2.1 hy2.2.1
  have HE2 : Hid (type_of% (eqB_i64K _ g1 g2 hx2.2.2 hy2.2.2)) := eqB_i64K _ g1 g2 hx2.2.2 hy2.2.2
  rw [← hc] at HE1
  rw [← hd] at HE2
  have HV : Hid (ImgD.val ⟨m1, t1, g1⟩ = ImgD.val ⟨m2, t2, g2⟩ ↔ m1 = m2 ∧ c = true ∧ d = true) := by
    unfold Hid ImgD.val
    rw [hc, hd, decide_eq_true_eq, decide_eq_true_eq, Prod.mk.injEq, Prod.mk.injEq]
    exact ⟨fun h => ⟨nums_injK h.1, h.2⟩, fun h => ⟨by rw [h.1], h.2⟩⟩
  clear hc hd hx hy hx2 hy2 bA
  dsimp only [ImgD.v]
  by_cases hm : m1 = m2
  · have hb : (m1.toList == m2.toList) = true := beq_iff_eq.2 (by rw [hm])
    have HM : Hid (m1 = m2) := hm
    clear hm
    cases c with
    | true =>
      cases d with
      | true =>
        go_enter Try.func8, Try.ntmps8
        go_wp2_with fail
        refine HE1.out.mono ?_
        rintro e w1 ⟨rfl, rfl⟩
        go_wp2_with fail
        refine HE2.out.mono ?_
        rintro e w1 ⟨rfl, rfl⟩
        go_wp2
        go_ret
        exact ⟨true, rfl, by rw [HV.out]; exact ⟨fun _ => ⟨HM.out, by trivial, by trivial⟩, fun _ => by trivial⟩, HBA.out⟩
      | false =>
        go_enter Try.func8, Try.ntmps8
        go_wp2_with fail
        refine HE1.out.mono ?_
        rintro e w1 ⟨rfl, rfl⟩
        go_wp2_with fail
        refine HE2.out.mono ?_
        rintro e w1 ⟨rfl, rfl⟩
        go_wp2
        go_ret
        exact ⟨false, rfl, by rw [HV.out]; exact ⟨fun h => absurd h (by decide), fun h => absurd h.2.2 (by decide)⟩, HBA.out⟩
    | false =>
      go_enter Try.func8, Try.ntmps8
      go_wp2_with fail
      refine HE1.out.mono ?_
      rintro e w1 ⟨rfl, rfl⟩
      go_wp2
      go_ret
      exact ⟨false, rfl, by rw [HV.out]; exact ⟨fun h => absurd h (by decide), fun h => absurd h.2.1 (by decide)⟩, HBA.out⟩
  · have hb : (m1.toList == m2.toList) = false := beq_eq_false_iff_ne.2 (fun h => hm (bytes_injK h))
    have HM : Hid (m1 ≠ m2) := hm
    clear hm
    go_enter Try.func8, Try.ntmps8
    go_wp2
    go_ret
    exact ⟨false, rfl, by rw [HV.out]; exact ⟨fun h => absurd h (by decide), fun h => absurd h.1 HM.out⟩, HBA.out⟩
set_option maxHeartbeats 2000000 in
set_option maxRecDepth 1000000 in
theorem sameCal_any (x y : CalD) (w : World) (hx : x.ok w) (hy : y.ok w) :
    Calls Try.prog 26 #[.agg #[.int .i64 x.f, .int .i64 x.a, .slice x.l.o x.l.n x.l.cap, .slice x.s.o x.s.n x.s.cap], .agg #[.int .i64 y.f, .int .i64 y.a, .slice y.l.o y.l.n y.l.cap, .slice y.s.o y.s.n y.s.cap]] w fun r w' => ∃ e : Bool, r = .returned (.bool e) ∧ (e = true ↔ x.val = y.val) ∧ Below w.heap.size w w' := by
  obtain ⟨f1, a1, l1, s1⟩ := x
  obtain ⟨f2, a2, l2, s2⟩ := y
  have bA : Below w.heap.size w ((w.alloc (.cells #[.int .i64 f1, .int .i64 a1, .slice l1.o l1.n l1.cap, .slice s1.o s1.n s1.cap] 55)).alloc (.cells #[.int .i64 f2, .int .i64 a2, .slice l2.o l2.n l2.cap, .slice s2.o s2.n s2.cap] 55)) := ((Below.refl _ _).alloc (Nat.le_refl _) _).alloc (by simp) _
  have HBA : Hid (type_of% bA) := bA
  have hx2 := hx.below bA
  have hy2 := hy.below bA
  obtain ⟨c, hc⟩ : ∃ c, c = decide (l1.xs = l2.xs) := ⟨_, rfl⟩
  obtain ⟨d, hd⟩ : ∃ d, d = decide (s1.xs = s2.xs) := ⟨_, rfl⟩
  have HE1 : Hid (type_of% (eqB_i64K _ l1 l2 hx2.2.2.1 hy2.2.2.1)) := eqB_i64K _ l1 l2 hx2.2.2.1 hy2.2.2.1
  have HE2 : Hid (type_of% (eqB_i64K _ s1 s2 hx2.2.2.2 hy2.2.2.2)) := eqB_i64K _ s1 s2 hx2.2.2.2 hy2.2.2.2
  rw [← hc] at HE1
  rw [← hd] at HE2
  have HV : Hid (CalD.val ⟨f1, a1, l1, s1⟩ = CalD.val ⟨f2, a2, l2, s2⟩ ↔ f1 = f2 ∧ a1 = a2 ∧ c = true ∧ d = true) := by
    unfold Hid CalD.val
    rw [hc, hd, decide_eq_true_eq, decide_eq_true_eq, Prod.mk.injEq, Prod.mk.injEq, Prod.mk.injEq]
  clear hc hd hx hy hx2 hy2 bA
  dsimp only
  by_cases hf : f1 = f2
  · subst hf
    by_cases ha : a1 = a2
    · subst ha
      cases c with
      | true =>
        go_enter Try.func26, Try.ntmps26
        go_wp2_with fail
        refine HE1.out.mono ?_
        rintro e w1 ⟨rfl, rfl⟩
        go_wp2_with fail
        refine HE2.out.mono ?_
        rintro e w1 ⟨rfl, rfl⟩
        go_wp2
        go_ret
        exact ⟨d, rfl, by rw [HV.out]; exact ⟨fun h => ⟨by trivial, by trivial, by trivial, h⟩, fun h => h.2.2.2⟩, HBA.out⟩
      | false =>
        go_enter Try.func26, Try.ntmps26
        go_wp2_with fail
        refine HE1.out.mono ?_
        rintro e w1 ⟨rfl, rfl⟩
        go_wp2
        go_ret
        exact ⟨false, rfl, by rw [HV.out]; exact ⟨fun h => absurd h (by decide), fun h => absurd h.2.2.1 (by decide)⟩, HBA.out⟩
    · have hb : (a1 == a2) = false := beq_eq_false_iff_ne.2 ha
      have HM : Hid (a1 ≠ a2) := ha
      clear ha
      go_enter Try.func26, Try.ntmps26
      go_wp2
      go_ret
      first | exact ⟨false, rfl, by rw [HV.out]; exact ⟨fun h => absurd h (by decide), fun h => absurd h.2.1 HM.out⟩, HBA.out⟩ | exact Or.inl ⟨rfl, fun h => absurd (HV.out.1 h).2.1 HM.out, HBA.out⟩
  · have hb : (f1 == f2) = false := beq_eq_false_iff_ne.2 hf
    have HM : Hid (f1 ≠ f2) := hf
    clear hf
    go_enter Try.func26, Try.ntmps26
    go_wp2
    go_ret
    exact ⟨false, rfl, by rw [HV.out]; exact ⟨fun h => absurd h (by decide), fun h => absurd h.1 HM.out⟩, HBA.out⟩
set_option maxHeartbeats 8000000 in
set_option maxRecDepth 1000000 in
theorem sameAll_cal {β : Type} (val : CalD → β) (w : World) (L M : List CalD) (o1 o2 : Option Addr) (n m k1 k2 : Nat) (l1 : L.length = n) (l2 : M.length = m) (c1 : n ≤ k1) (c2 : m ≤ k2) (m1 : k1 ≤ 9223372036854775807) (_m2 : k2 ≤ 9223372036854775807)
    (r1 : L = [] ∨ ∃ b f, o1 = some ⟨b, f, none⟩ ∧ b < w.heap.size ∧ ∀ i (h : i < L.length) r, r < 4 → w.cell? ⟨b, f + i * 4 + r, none⟩ = (CalD.cells L[i])[r]?)
    (r2 : M = [] ∨ ∃ b f, o2 = some ⟨b, f, none⟩ ∧ b < w.heap.size ∧ ∀ i (h : i < M.length) r, r < 4 → w.cell? ⟨b, f + i * 4 + r, none⟩ = (CalD.cells M[i])[r]?)
    (HONE : Hid (∀ d1 ∈ L, ∀ d2 ∈ M, ∀ w', Below w.heap.size w w' → Calls Try.prog 26 #[.agg #[.int .i64 d1.f, .int .i64 d1.a, .slice d1.l.o d1.l.n d1.l.cap, .slice d1.s.o d1.s.n d1.s.cap], .agg #[.int .i64 d2.f, .int .i64 d2.a, .slice d2.l.o d2.l.n d2.l.cap, .slice d2.s.o d2.s.n d2.s.cap]] w' fun e w'' => ∃ b : Bool, e = .returned (.bool b) ∧ (b = true ↔ val d1 = val d2) ∧ Below w'.heap.size w' w'')) :
    Calls Try.prog 25 #[.slice o1 n k1, .slice o2 m k2, .func (.func 26) #[] #[]] w fun r w' => ∃ e : Bool, r = .returned (.bool e) ∧ (e = true ↔ L.map val = M.map val) ∧ Below w.heap.size w w' := by
  by_cases hn : n = m
  · subst hn
    have HL1 : Hid (L.length = n) := l1
    have HL2 : Hid (M.length = n) := l2
    by_cases hz : n = 0
    · subst hz
      have hx : L = [] := List.length_eq_zero_iff.1 l1
      have hy : M = [] := List.length_eq_zero_iff.1 l2
      subst hx
      subst hy
      clear l1 l2 r1 r2
      go_enter Try.func25, Try.ntmps25
      go_wp2
      go_loopw [15] (fun i wr => i = .int .i64 0 ∧ wr = w) (fun _ _ => 0)
      case atStart => exact ⟨rfl, rfl⟩
      case round =>
        obtain ⟨rfl, rfl⟩ := hrel
        go_wp2
        go_ret
        exact ⟨true, rfl, by simp, Below.refl _ _⟩
    obtain ⟨b, f, rfl, hb, h1⟩ := r1.resolve_left (fun e => hz (by rw [← l1, e]; rfl))
    obtain ⟨b2, f2, rfl, hb2, h2⟩ := r2.resolve_left (fun e => hz (by rw [← l2, e]; rfl))
    have H1 : Hid (type_of% h1) := h1
    have H2 : Hid (type_of% h2) := h2
    clear h1 h2 l1 l2 hz r1 r2
    go_enter Try.func25, Try.ntmps25
    go_wp2
    go_loopw [15] (fun i wr => ∃ k : Nat, i = .int .i64 k ∧ k ≤ n ∧ Hid ((L.take k).map val = (M.take k).map val) ∧ Hid (Below w.heap.size w wr)) (fun i _ => n - (intOf i).toNat)
    case atStart => exact ⟨0, rfl, by omega, rfl, Below.refl _ _⟩
    case round =>
      obtain ⟨k, rfl, hk, HT, HB⟩ := hrel
      have hws := HB.out.size
      by_cases hlt : k < n
      · have hx : k < L.length := by rw [HL1.out]; exact hlt
        have hy : k < M.length := by rw [HL2.out]; exact hlt
        have HN : Hid (val L[k] ≠ val M[k] → L.map val ≠ M.map val) := take_neMK val hx hy
        have HE : Hid (val L[k] = val M[k] → (L.take (k + 1)).map val = (M.take (k + 1)).map val) := take_eqMK val hx hy HT.out
        have HO := HONE.out L[k] (List.getElem_mem hx) M[k] (List.getElem_mem hy)
        have HC1 : Hid (∀ r, r < 4 → wr.cell? ⟨b, f + k * 4 + r, none⟩ = (CalD.cells L[k])[r]?) := fun r hr => by
          rw [HB.out.cell (p := ⟨b, f + k * 4 + r, none⟩) hb]
          exact H1.out k hx r hr
        have HC2 : Hid (∀ r, r < 4 → wr.cell? ⟨b2, f2 + k * 4 + r, none⟩ = (CalD.cells M[k])[r]?) := fun r hr => by
          rw [HB.out.cell (p := ⟨b2, f2 + k * 4 + r, none⟩) hb2]
          exact H2.out k hy r hr
        generalize L[k] = d1 at HN HE HC1 HO
        generalize M[k] = d2 at HN HE HC2 HO
        have HS : Hid (type_of% HO) := HO
        clear HO
        have e0 : wr.cell? ⟨b, f + k * 4, none⟩ = some (.int .i64 d1.f) := HC1.out 0 (by omega)
        have q0 : wr.cell? ⟨b2, f2 + k * 4, none⟩ = some (.int .i64 d2.f) := HC2.out 0 (by omega)
        have e1 : wr.cell? ⟨b, f + k * 4 + 1, none⟩ = some (.int .i64 d1.a) := HC1.out 1 (by omega)
        have q1 : wr.cell? ⟨b2, f2 + k * 4 + 1, none⟩ = some (.int .i64 d2.a) := HC2.out 1 (by omega)
        have e2 : wr.cell? ⟨b, f + k * 4 + 2, none⟩ = some (.slice d1.l.o d1.l.n d1.l.cap) := HC1.out 2 (by omega)
        have q2 : wr.cell? ⟨b2, f2 + k * 4 + 2, none⟩ = some (.slice d2.l.o d2.l.n d2.l.cap) := HC2.out 2 (by omega)
        have e3 : wr.cell? ⟨b, f + k * 4 + 3, none⟩ = some (.slice d1.s.o d1.s.n d1.s.cap) := HC1.out 3 (by omega)
        have q3 : wr.cell? ⟨b2, f2 + k * 4 + 3, none⟩ = some (.slice d2.s.o d2.s.n d2.s.cap) := HC2.out 3 (by omega)
        have hki0 : (0 : Int) ≤ (k : Int) := by omega
        have hki1 : (k : Int) < (n : Int) := by omega
        clear HT hx hy HC1 HC2
        go_wp2
        go_region_with (go_at_call 26; refine (HS.out _ HB.out.drew).mono ?_; rintro r w2 ⟨c, rfl, hiff, b2'⟩)
        all_goals
          have HB2 : Hid (Below w.heap.size w w2) := HB.out.drew.trans (b2'.mono HB.out.size)
          have HIF : Hid (type_of% hiff) := hiff
          clear b2' hiff
          cases c with
          | true =>
            have HE2 : Hid ((L.take (k + 1)).map val = (M.take (k + 1)).map val) := HE.out (HIF.out.1 rfl)
            go_wp2
            go_roundw
            case rel => exact ⟨k + 1, by go_num, by omega, HE2, HB2⟩
            case measure => simp [intOf]; omega
          | false =>
            have HD : Hid (L.map val ≠ M.map val) := HN.out (fun e => absurd (HIF.out.2 e) (by decide))
            go_wp2
            go_ret
            exact ⟨false, rfl, by simpa using HD.out, HB2.out⟩
      · have HD : Hid (L.map val = M.map val) := by
          have h := HT.out
          rw [List.take_of_length_le (by rw [HL1.out]; omega), List.take_of_length_le (by rw [HL2.out]; omega)] at h
          exact h
        clear HT
        go_wp2
        go_ret
        exact ⟨true, rfl, by simpa using HD.out, HB.out⟩
  · have HD : Hid (L.map val ≠ M.map val) := by
      intro e
      have := congrArg List.length e
      rw [List.length_map, List.length_map] at this
      omega
    have hb1 : ((n : Int) == (m : Int)) = false := by rw [beq_eq_false_iff_ne]; omega
    have hb2 : ((n : Int) != (m : Int)) = true := by rw [bne, hb1]; rfl
    clear r1 r2 l1 l2 hn
    go_enter Try.func25, Try.ntmps25
    go_wp2
    go_ret
    exact ⟨false, rfl, by simpa using HD.out, Below.refl _ _⟩

set_option maxHeartbeats 2000000 in
set_option maxRecDepth 1000000 in
theorem sameState_any (x y : StaD) (w : World) (hx : x.ok w) (hy : y.ok w) :
    Calls Try.prog 9 #[x.v, y.v] w fun r w' => ∃ e : Bool, r = .returned (.bool e) ∧ (e = true ↔ x.val = y.val) ∧ Below w.heap.size w w' := by
  obtain ⟨o1, k1, c1, n1⟩ := x
  obtain ⟨o2, k2, c2, n2⟩ := y
  have bA : Below w.heap.size w ((w.alloc (.cells #[.slice o1 c1.length k1, .int .i64 n1] 28)).alloc (.cells #[.slice o2 c2.length k2, .int .i64 n2] 28)) := ((Below.refl _ _).alloc (Nat.le_refl _) _).alloc (by simp) _
  have HBA : Hid (type_of% bA) := bA
  have hx2 := (hx.below bA).2
  have hy2 := (hy.below bA).2
  have m1 := hx2.most
  have m2 := hy2.most
  unfold maxLen at m1 m2
  have HS : Hid (type_of% (sameAll_cal CalD.val _ c1 c2 o1 o2 c1.length c2.length k1 k2 rfl rfl hx2.le hy2.le (by omega) (by omega) hx2.at' hy2.at' (fun d1 h1 d2 h2 w' b => sameCal_any d1 d2 w' ((hx2.all d1 h1).below b) ((hy2.all d2 h2).below b)))) := sameAll_cal CalD.val _ c1 c2 o1 o2 c1.length c2.length k1 k2 rfl rfl hx2.le hy2.le (by omega) (by omega) hx2.at' hy2.at' (fun d1 h1 d2 h2 w' b => sameCal_any d1 d2 w' ((hx2.all d1 h1).below b) ((hy2.all d2 h2).below b))
  have HV : Hid (StaD.val ⟨o1, k1, c1, n1⟩ = StaD.val ⟨o2, k2, c2, n2⟩ ↔ n1 = n2 ∧ c1.map CalD.val = c2.map CalD.val) := by
    unfold Hid StaD.val
    rw [Prod.mk.injEq]
  clear hx hy hx2 hy2 bA m1 m2
  dsimp only [StaD.v]
  by_cases hn : n1 = n2
  · subst hn
    go_enter Try.func9, Try.ntmps9
    go_wp2_with fail
    refine HS.out.mono ?_
    rintro r w1 ⟨e, rfl, he, b1⟩
    have HEQ : Hid (type_of% he) := he
    have HB1 : Hid (Below w.heap.size w w1) := HBA.out.trans (b1.mono HBA.out.size)
    clear he b1
    go_wp2
    go_ret
    exact ⟨e, rfl, by rw [HV.out, HEQ.out]; exact ⟨fun h => ⟨by trivial, h⟩, fun h => h.2⟩, HB1.out⟩
  · have hb : (n1 == n2) = false := beq_eq_false_iff_ne.2 hn
    have HM : Hid (n1 ≠ n2) := hn
    clear hn
    go_enter Try.func9, Try.ntmps9
    go_wp2
    go_ret
    exact ⟨false, rfl, by rw [HV.out]; exact ⟨fun h => absurd h (by decide), fun h => absurd h.1 HM.out⟩, HBA.out⟩
end Go.Proofs.Ytfmmefmpjejioaa
