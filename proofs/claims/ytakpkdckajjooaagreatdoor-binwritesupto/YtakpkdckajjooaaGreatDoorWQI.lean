/-
 What the document's own codeBytes says of a function.
 The document's own codeBytes of a function that is well.
-/
import Derived.Test.YtakpkdckajjooaaGreatDoorWQJ
import Derived.BigQuiet
import Derived.Deep.RegionHeld3
import Derived.Test.YtakpkdckajjooaaGreatDoorWQW
import Derived.Test.YtakpkdckajjooaaGreatDoorWRNWr
set_option maxHeartbeats 4000000
set_option maxRecDepth 1000000
namespace Go.Proofs.YtakpkdckajjooaaGreatDoor
set_option linter.unusedVariables false
open Go.RowKit
theorem belowDrewN {N : Nat} {a w : World} (h : Below N a w) (k : Nat) : Below N a (w.drewN k) := ⟨h.os, h.tape, h.output, h.size, h.block⟩
theorem grpR_succ (xs : List Int) (j : Nat) (h : j < xs.length) : grpR (xs.take (j + 1)) = gstep (grpR (xs.take j)) xs[j] := by
 unfold grpR
 rw [List.take_succ_eq_append_getElem h, List.foldl_append]
 rfl
def edge (xs : List Int) (i : Nat) : Prop := ∀ (h : i < xs.length) (p : Nat × Int) (g : List (Nat × Int)), grpR (xs.take i) = p :: g → p.2 ≠ xs[i]
theorem edge_zero (xs : List Int) : edge xs 0 := fun _ p g h => by rw [List.take_zero] at h; cases h
theorem run_new {xs : List Int} {i : Nat} (h : i < xs.length) (he : edge xs i) : grpR (xs.take (i + 1)) = (1, xs[i]) :: grpR (xs.take i) := by
 rw [grpR_succ xs i h]
 cases hg : grpR (xs.take i) with
 | nil => rfl
 | cons p g =>
  obtain ⟨n, j⟩ := p
  have := he h (n, j) g hg
  rw [gstep, if_neg (fun e => this e.symm)]
theorem run_more {xs : List Int} {i k : Nat} {x : Int} {R : List (Nat × Int)} (h : i + k < xs.length) (hg : grpR (xs.take (i + k)) = (k, x) :: R) (e : xs[i + k] = x) : grpR (xs.take (i + (k + 1))) = (k + 1, x) :: R := by
 rw [← Nat.add_assoc, grpR_succ xs (i + k) h, hg, e, gstep, if_pos rfl]
theorem run_edge {xs : List Int} {i k : Nat} {x : Int} {R : List (Nat × Int)} (hg : grpR (xs.take (i + k)) = (k, x) :: R) (e : ∀ h : i + k < xs.length, xs[i + k] ≠ x) : edge xs (i + k) := by
 intro h p g hp
 rw [hg] at hp
 simp only [List.cons.injEq] at hp
 rw [← hp.1]
 exact fun e2 => e h e2.symm
theorem run_text {xs : List Int} {i k : Nat} {x : Int} (hg : grpR (xs.take (i + k)) = (k, x) :: grpR (xs.take i)) : (grpR (xs.take (i + k))).reverse.flatMap tGrp = (grpR (xs.take i)).reverse.flatMap tGrp ++ (uB k ++ [x]) := by
 rw [hg, List.reverse_cons, List.flatMap_append]
 simp [tGrp]
theorem box3 {w w' : World} {c0 c1 c2 : Value} {t : TypeId} (h : Below (w.heap.size + 1) (w.alloc (.cells #[c0, c1, c2] t)) w') : w'.cell? ⟨w.heap.size, 1, none⟩ = some c1 ∧ w'.cell? ⟨w.heap.size, 2, none⟩ = some c2 := by
 have := (h.block w.heap.size (Nat.lt_succ_self _)).trans (heap_alloc_new w _)
 simp [World.cell?, this]
theorem dCode_core (t : Int) (o p : Option Addr) (n cap nb cb : Nat) (xs : List Int) (B : List Int) (hn : n ≤ 16) (hcap : cap ≤ 9223372036854775807) (hnc : n ≤ cap) (w : World)
  (HL : Hid (xs.length = n)) (HAT : Hid (xs = [] ∨ ∃ b f, o = some ⟨b, f, none⟩ ∧ b < w.heap.size ∧ ∀ i (h : i < xs.length) r, r < 1 → w.cell? ⟨b, f + i * 1 + r, none⟩ = ([Value.int .u8 xs[i]])[r]?)) (HKK : Hid (∀ x ∈ xs, 0 ≤ x ∧ x < 256)) (hB : B.length ≤ 300000)
  (HGL : Hid ((grp xs).length ≤ 16 ∧ ((grp xs).flatMap tGrp).length ≤ 1000 ∧ ∀ i, ((grpR (xs.take i)).reverse.flatMap tGrp).length ≤ 1000 ∧ (grpR (xs.take i)).length ≤ 16))
  (HNW : Hid (∀ w', Below w.heap.size w w' → Calls Tryz.prog 141 #[.slice p nb cb] w' fun r w'' => ∃ t, r = .returned (.tuple #[.string t, .int .i64 0]) ∧ nums t = B ∧ Below w'.heap.size w' w'')) :
  Calls Tryz.prog 91 #[.agg #[.int .i64 t, .slice o n cap, .slice p nb cb]] w (Txt w (uB (tLocs xs ++ B).length ++ (tLocs xs ++ B))) := by
 have bA : Below w.heap.size w (w.alloc (.cells #[.int .i64 t, .slice o n cap, .slice p nb cb] 58)) := (Below.refl _ _).alloc (Nat.le_refl _) _
 have HBA : Hid (type_of% bA) := bA
 clear bA
 go_enter Tryz.func91, Tryz.ntmps91
 go_wp2
 go_loopw [3, 4, 5] (fun gv av iv wr => ∃ (i : Nat) (u : ByteArray), gv = .int .i64 ((grpR (xs.take i)).length : Int) ∧ av = .string u ∧ iv = .int .i64 (i : Int) ∧ i ≤ n ∧ Hid (nums u = (grpR (xs.take i)).reverse.flatMap tGrp) ∧ Hid (edge xs i) ∧ Hid (Below (w.heap.size + 1) (w.alloc (.cells #[.int .i64 t, .slice o n cap, .slice p nb cb] 58)) wr)) (fun _ _ iv _ => n - (intOf iv).toNat)
 case atStart => exact ⟨0, ⟨#[]⟩, by rw [List.take_zero]; rfl, rfl, rfl, by omega, by unfold Hid; rw [List.take_zero]; rfl, edge_zero xs, Below.refl _ _⟩
 case round =>
  obtain ⟨i, u, rfl, rfl, rfl, hi, HN, HED, HBW⟩ := hrel
  obtain ⟨e1, e2⟩ := box3 HBW.out
  have hzu : u.size ≤ 1000 := by rw [size_of HN.out]; exact (HGL.out.2.2 i).1
  have hzg : (grpR (xs.take i)).length ≤ 16 := (HGL.out.2.2 i).2
  by_cases hlt : i < n
  ·have hxl : i < xs.length := by rw [HL.out]; exact hlt
   obtain ⟨b, f, rfl, hbw, hcl⟩ := HAT.out.resolve_left (fun e => by rw [e] at hxl; exact absurd hxl (by simp))
   have HCL : Hid (∀ w', Below (w.heap.size + 1) (w.alloc (.cells #[.int .i64 t, .slice (some ⟨b, f, none⟩) n cap, .slice p nb cb] 58)) w' → ∀ j (h : j < xs.length), w'.cell? ⟨b, f + j, none⟩ = some (.int .u8 xs[j])) := fun w' hb j hj => by
    rw [hb.cell (p := ⟨b, f + j, none⟩) (by show b < _; omega), HBA.out.cell (p := ⟨b, f + j, none⟩) hbw]
    have := hcl j hj 0 (by omega)
    rw [Nat.mul_one, Nat.add_zero] at this
    rw [this]
    rfl
   clear hcl
   have HX1 : Hid (grpR (xs.take (i + 1)) = (1, xs[i]) :: grpR (xs.take i)) := run_new hxl HED.out
   have hxb := HKK.out _ (List.getElem_mem hxl)
   have HXI : Hid (∀ w', Below (w.heap.size + 1) (w.alloc (.cells #[.int .i64 t, .slice (some ⟨b, f, none⟩) n cap, .slice p nb cb] 58)) w' → w'.cell? ⟨b, f + i, none⟩ = some (.int .u8 xs[i])) := fun w' hb => HCL.out w' hb i hxl
   obtain ⟨x, hx⟩ : ∃ x, x = xs[i] := ⟨_, rfl⟩
   rw [← hx] at HX1 hxb HXI
   clear hx hxl HED
   have hki0 : (0 : Int) ≤ (i : Int) := by omega
   have hki1 : (i : Int) < (n : Int) := by omega
   go_wp2
   go_loopw [6] (fun nv wq => ∃ k : Nat, nv = .int .i64 (k : Int) ∧ 1 ≤ k ∧ i + k ≤ n ∧ Hid (grpR (xs.take (i + k)) = (k, x) :: grpR (xs.take i)) ∧ Hid (Below (w.heap.size + 1) (w.alloc (.cells #[.int .i64 t, .slice (some ⟨b, f, none⟩) n cap, .slice p nb cb] 58)) wq)) (fun nv _ => n - (intOf nv).toNat)
   case atStart => exact ⟨1, rfl, by omega, by omega, HX1, HBW⟩
   case round =>
    obtain ⟨k, rfl, hk1, hkn, HG, HBQ⟩ := hrel
    clear HBW HX1 e1 e2
    obtain ⟨e1, e2⟩ := box3 HBQ.out
    have e3 := HXI.out _ HBQ.out
    by_cases hc : i + k < n
    ·have hxl : i + k < xs.length := by rw [HL.out]; exact hc
     have e4 := HCL.out _ HBQ.out (i + k) hxl
     have HMO : Hid (xs[i + k] = x → grpR (xs.take (i + (k + 1))) = (k + 1, x) :: grpR (xs.take i)) := run_more hxl HG.out
     have HEX : Hid (xs[i + k] ≠ x → edge xs (i + k)) := fun h => run_edge HG.out (fun _ => h)
     generalize xs[i + k] = y at e4 HMO HEX
     have hq0 : (0 : Int) ≤ (i : Int) + (k : Int) := by omega
     have hq1 : (i : Int) + (k : Int) < (n : Int) := by omega
     have hd : decide ((i : Int) + (k : Int) < (n : Int)) = true := decide_eq_true hq1
     by_cases hy : y = x
     ·subst hy
      have HG2 : Hid (type_of% (HMO.out rfl)) := HMO.out rfl
      clear HMO HEX HG
      go_wp2
      go_quiet (fail)
      all_goals
       go_wp2
       go_roundw
       case rel => exact ⟨k + 1, by go_num, by omega, by omega, HG2, belowDrewN HBQ.out _⟩
       case measure => simp [intOf]; omega
     ·have hyb : (y == x) = false := beq_eq_false_iff_ne.2 hy
      have HE2 : Hid (edge xs (i + k)) := HEX.out hy
      clear HMO HEX hy
      go_wp2
      go_quiet (fail)
      all_goals
       obtain ⟨wz, hwz⟩ : ∃ wz, wz = wr.drewN nq := ⟨_, rfl⟩
       have HBZ : Hid (Below (w.heap.size + 1) (w.alloc (.cells #[.int .i64 t, .slice (some ⟨b, f, none⟩) n cap, .slice p nb cb] 58)) wz) := by unfold Hid; rw [hwz]; exact belowDrewN HBQ.out nq
       rw [← hwz]
       clear hwz HBQ e1 e2 e3 e4 hyb hd
       have hsz0 : w.heap.size + 1 ≤ wz.heap.size := box_size HBZ.out
       obtain ⟨e1, e2⟩ := box3 HBZ.out
       have e3 := HXI.out _ HBZ.out
       have HC1 : Hid (∀ w', Below (w.heap.size + 1) (w.alloc (.cells #[.int .i64 t, .slice (some ⟨b, f, none⟩) n cap, .slice p nb cb] 58)) w' → Calls Tryz.prog 29 #[.int .i64 (k : Int)] w' (Txt w' (uB k))) := fun w' _ => (by have := dU (k : Int) (by omega) (by omega) w'; rw [Int.toNat_natCast] at this; exact this)
       have HC2 : Hid (∀ w', Below (w.heap.size + 1) (w.alloc (.cells #[.int .i64 t, .slice (some ⟨b, f, none⟩) n cap, .slice p nb cb] 58)) w' → Calls Tryz.prog 28 #[.int .i64 (IntKind.i64.wrap x)] w' (Txt w' [x])) := fun w' _ => (by have hw : IntKind.i64.wrap x = x := (by rw [IntKind.wrap_i64]; omega); rw [hw]; exact dChr x hxb.1 hxb.2 w')
       have HL1 : Hid ((uB k).length ≤ 10) := uB_len10 k (by omega)
       have HL2 : Hid ([x].length ≤ 1) := Nat.le_refl _
       have HKP : Hid (∀ w', Below (w.heap.size + 1) (w.alloc (.cells #[.int .i64 t, .slice (some ⟨b, f, none⟩) n cap, .slice p nb cb] 58)) w' → w'.cell? ⟨w.heap.size, 1, none⟩ = some (.slice (some ⟨b, f, none⟩) n cap) ∧ w'.cell? ⟨b, f + i, none⟩ = some (.int .u8 x)) := fun w' h => ⟨(box3 h).1, HXI.out w' h⟩
       have hx0 : 0 ≤ x := hxb.1
       have hx1 : x < 256 := hxb.2
       go_wp2
       go_region_held3 (fun w' => w'.cell? ⟨w.heap.size, 1, none⟩ = some (.slice (some ⟨b, f, none⟩) n cap) ∧ w'.cell? ⟨b, f + i, none⟩ = some (.int .u8 x))
        (first | exact HKP.out _ bch | go_keep)
        (first
         | (go_at_call 29; (fail_if_success (have := HT1)); refine (HC1.out _ ?_).mono ?_; exact bch; rintro r w1 ⟨t1, rfl, ht1, b1⟩; have hz1 : t1.size ≤ 10 := Nat.le_trans (Nat.le_of_eq (size_of ht1)) HL1.out; have HT1 : Hid (type_of% ht1) := ht1; have HB1 : Hid (type_of% b1) := b1; have HA1 : Hid (Below (w.heap.size + 1) (w.alloc (.cells #[.int .i64 t, .slice (some ⟨b, f, none⟩) n cap, .slice p nb cb] 58)) w1) := (by (refine Below.trans ?_ (b1.mono ?_) <;> first | exact bch | exact bcl)); have hs1 : w.heap.size + 1 ≤ w1.heap.size := box_size HA1.out; clear ht1 b1)
         | (go_at_call 28; (fail_if_success (have := HT2)); refine (HC2.out _ ?_).mono ?_; exact bch; rintro r w2 ⟨t2, rfl, ht2, b2⟩; have hz2 : t2.size ≤ 1 := Nat.le_trans (Nat.le_of_eq (size_of ht2)) HL2.out; have HT2 : Hid (type_of% ht2) := ht2; have HB2 : Hid (type_of% b2) := b2; have HA2 : Hid (Below (w.heap.size + 1) (w.alloc (.cells #[.int .i64 t, .slice (some ⟨b, f, none⟩) n cap, .slice p nb cb] 58)) w2) := (by (refine Below.trans ?_ (b2.mono ?_) <;> first | exact bch | exact bcl)); have hs2 : w.heap.size + 1 ≤ w2.heap.size := box_size HA2.out; have hq2 : ¬ 9223372036854775807 < t1.size + t2.size := (by omega); have hq3 : ¬ 9223372036854775807 < u.size + (t1.size + t2.size) := (by omega); clear ht2 b2))
       all_goals
        have HNN : Hid (nums (u ++ (t1 ++ t2)) = (grpR (xs.take (i + k))).reverse.flatMap tGrp) := by
         unfold Hid
         rw [nums_append, nums_append, HN.out, HT1.out, HT2.out, run_text HG.out]
        have HGG : Hid (((grpR (xs.take i)).length : Int) + 1 = ((grpR (xs.take (i + k))).length : Int)) := by
         unfold Hid
         rw [HG.out, List.length_cons]
         omega
        go_wp2
        go_roundw
        case rel => exact ⟨i + k, u ++ (t1 ++ t2), by rw [← HGG.out], rfl, by go_num, by omega, HNN, HE2, HA2⟩
        case measure => simp [intOf]; omega
    ·have hd : decide ((i : Int) + (k : Int) < (n : Int)) = false := decide_eq_false (by omega)
     have HE2 : Hid (edge xs (i + k)) := run_edge HG.out (fun h => absurd (by rw [HL.out] at h; exact h) hc)
     go_wp2
     go_quiet (fail)
     all_goals
      obtain ⟨wz, hwz⟩ : ∃ wz, wz = wr.drewN nq := ⟨_, rfl⟩
      have HBZ : Hid (Below (w.heap.size + 1) (w.alloc (.cells #[.int .i64 t, .slice (some ⟨b, f, none⟩) n cap, .slice p nb cb] 58)) wz) := by unfold Hid; rw [hwz]; exact belowDrewN HBQ.out nq
      rw [← hwz]
      clear hwz HBQ e1 e2 e3 hd
      have hsz0 : w.heap.size + 1 ≤ wz.heap.size := box_size HBZ.out
      obtain ⟨e1, e2⟩ := box3 HBZ.out
      have e3 := HXI.out _ HBZ.out
      have HC1 : Hid (∀ w', Below (w.heap.size + 1) (w.alloc (.cells #[.int .i64 t, .slice (some ⟨b, f, none⟩) n cap, .slice p nb cb] 58)) w' → Calls Tryz.prog 29 #[.int .i64 (k : Int)] w' (Txt w' (uB k))) := fun w' _ => (by have := dU (k : Int) (by omega) (by omega) w'; rw [Int.toNat_natCast] at this; exact this)
      have HC2 : Hid (∀ w', Below (w.heap.size + 1) (w.alloc (.cells #[.int .i64 t, .slice (some ⟨b, f, none⟩) n cap, .slice p nb cb] 58)) w' → Calls Tryz.prog 28 #[.int .i64 (IntKind.i64.wrap x)] w' (Txt w' [x])) := fun w' _ => (by have hw : IntKind.i64.wrap x = x := (by rw [IntKind.wrap_i64]; omega); rw [hw]; exact dChr x hxb.1 hxb.2 w')
      have HL1 : Hid ((uB k).length ≤ 10) := uB_len10 k (by omega)
      have HL2 : Hid ([x].length ≤ 1) := Nat.le_refl _
      have HKP : Hid (∀ w', Below (w.heap.size + 1) (w.alloc (.cells #[.int .i64 t, .slice (some ⟨b, f, none⟩) n cap, .slice p nb cb] 58)) w' → w'.cell? ⟨w.heap.size, 1, none⟩ = some (.slice (some ⟨b, f, none⟩) n cap) ∧ w'.cell? ⟨b, f + i, none⟩ = some (.int .u8 x)) := fun w' h => ⟨(box3 h).1, HXI.out w' h⟩
      have hx0 : 0 ≤ x := hxb.1
      have hx1 : x < 256 := hxb.2
      go_wp2
      go_region_held3 (fun w' => w'.cell? ⟨w.heap.size, 1, none⟩ = some (.slice (some ⟨b, f, none⟩) n cap) ∧ w'.cell? ⟨b, f + i, none⟩ = some (.int .u8 x))
       (first | exact HKP.out _ bch | go_keep)
       (first
        | (go_at_call 29; (fail_if_success (have := HT1)); refine (HC1.out _ ?_).mono ?_; exact bch; rintro r w1 ⟨t1, rfl, ht1, b1⟩; have hz1 : t1.size ≤ 10 := Nat.le_trans (Nat.le_of_eq (size_of ht1)) HL1.out; have HT1 : Hid (type_of% ht1) := ht1; have HB1 : Hid (type_of% b1) := b1; have HA1 : Hid (Below (w.heap.size + 1) (w.alloc (.cells #[.int .i64 t, .slice (some ⟨b, f, none⟩) n cap, .slice p nb cb] 58)) w1) := (by (refine Below.trans ?_ (b1.mono ?_) <;> first | exact bch | exact bcl)); have hs1 : w.heap.size + 1 ≤ w1.heap.size := box_size HA1.out; clear ht1 b1)
        | (go_at_call 28; (fail_if_success (have := HT2)); refine (HC2.out _ ?_).mono ?_; exact bch; rintro r w2 ⟨t2, rfl, ht2, b2⟩; have hz2 : t2.size ≤ 1 := Nat.le_trans (Nat.le_of_eq (size_of ht2)) HL2.out; have HT2 : Hid (type_of% ht2) := ht2; have HB2 : Hid (type_of% b2) := b2; have HA2 : Hid (Below (w.heap.size + 1) (w.alloc (.cells #[.int .i64 t, .slice (some ⟨b, f, none⟩) n cap, .slice p nb cb] 58)) w2) := (by (refine Below.trans ?_ (b2.mono ?_) <;> first | exact bch | exact bcl)); have hs2 : w.heap.size + 1 ≤ w2.heap.size := box_size HA2.out; have hq2 : ¬ 9223372036854775807 < t1.size + t2.size := (by omega); have hq3 : ¬ 9223372036854775807 < u.size + (t1.size + t2.size) := (by omega); clear ht2 b2))
      all_goals
       have HNN : Hid (nums (u ++ (t1 ++ t2)) = (grpR (xs.take (i + k))).reverse.flatMap tGrp) := by
        unfold Hid
        rw [nums_append, nums_append, HN.out, HT1.out, HT2.out, run_text HG.out]
       have HGG : Hid (((grpR (xs.take i)).length : Int) + 1 = ((grpR (xs.take (i + k))).length : Int)) := by
        unfold Hid
        rw [HG.out, List.length_cons]
        omega
       go_wp2
       go_roundw
       case rel => exact ⟨i + k, u ++ (t1 ++ t2), by rw [← HGG.out], rfl, by go_num, by omega, HNN, HE2, HA2⟩
       case measure => simp [intOf]; omega
  ·have HEN : Hid (nums u = (grp xs).flatMap tGrp) := by
    have h := HN.out
    rw [List.take_of_length_le (by rw [HL.out]; omega)] at h
    exact h
   have HGN : Hid ((grpR (xs.take i)).length = (grp xs).length) := by
    unfold Hid grp
    rw [List.take_of_length_le (by rw [HL.out]; omega), List.length_reverse]
   rw [HGN.out] at hzg
   rw [HGN.out]
   generalize hgl : (grp xs).length = g at hzg
   have HGV : Hid ((grp xs).length = g) := hgl
   clear hgl HGN HN HED HAT HKK
   have HBZ : Hid (Below w.heap.size w wr) := HBA.out.trans (HBW.out.mono (by omega))
   go_wp2_with fail
   refine (HNW.out _ HBZ.out).mono ?_
   rintro r y1 ⟨v, rfl, hv, b1⟩
   have HV : Hid (nums v = B) := hv
   have hzv : v.size ≤ 300000 := by rw [size_of hv]; exact hB
   have HY1 : Hid (Below w.heap.size w y1) := HBZ.out.trans (b1.mono HBZ.out.size)
   have HU1 : Hid (∀ w', Calls Tryz.prog 29 #[.int .i64 (g : Int)] w' (Txt w' (uB g))) := fun w' => by
    have := dU (g : Int) (by omega) (by omega) w'
    rw [Int.toNat_natCast] at this
    exact this
   have HLG : Hid ((uB g).length ≤ 10) := uB_len10 g (by omega)
   clear hv b1 HBZ HNW e1 e2 HBW HBA
   go_wp2_with fail
   refine (HU1.out _).mono ?_
   rintro r y2 ⟨a1, rfl, ha1, b2⟩
   have HA1 : Hid (nums a1 = uB g) := ha1
   have hza : a1.size ≤ 10 := by rw [size_of ha1]; exact HLG.out
   have HY2 : Hid (Below w.heap.size w y2) := HY1.out.trans (b2.mono HY1.out.size)
   have k1 : a1.size + u.size ≤ 9223372036854775807 := by omega
   have k2 : a1.size + u.size + v.size ≤ 9223372036854775807 := by omega
   have HZ : Hid ((a1 ++ u ++ v).size = a1.size + u.size + v.size) := by unfold Hid; rw [ByteArray.size_append, ByteArray.size_append]
   have HT : Hid (nums (a1 ++ u ++ v) = tLocs xs ++ B) := by
    unfold Hid tLocs
    rw [nums_append, nums_append, HA1.out, HEN.out, HV.out, HGV.out]
   clear ha1 b2 HU1 HY1
   have HU2 : Hid (∀ w', Calls Tryz.prog 29 #[.int .i64 ((a1.size : Int) + (u.size : Int) + (v.size : Int))] w' (Txt w' (uB (tLocs xs ++ B).length))) := fun w' => by
    have := dU ((a1.size : Int) + (u.size : Int) + (v.size : Int)) (by omega) (by omega) w'
    have e : ((a1.size : Int) + (u.size : Int) + (v.size : Int)).toNat = (tLocs xs ++ B).length := by
     rw [← size_of HT.out, HZ.out]
     omega
    rw [e] at this
    exact this
   have HLT : Hid ((uB (tLocs xs ++ B).length).length ≤ 10) := by
    refine uB_len10 _ ?_
    rw [← size_of HT.out, HZ.out]
    omega
   go_wp2_with fail
   refine (HU2.out _).mono ?_
   rintro r y3 ⟨c1, rfl, hc1, b3⟩
   have HC1 : Hid (nums c1 = uB (tLocs xs ++ B).length) := hc1
   have hzc : c1.size ≤ 10 := by rw [size_of hc1]; exact HLT.out
   have HY3 : Hid (Below w.heap.size w y3) := HY2.out.trans (b3.mono HY2.out.size)
   have k3 : c1.size + (a1.size + u.size + v.size) ≤ 9223372036854775807 := by omega
   clear hc1 b3 HU2 HY2
   go_wp2
   go_ret
   exact ⟨_, rfl, by rw [nums_append, HC1.out, HT.out], HY3.out⟩
end Go.Proofs.YtakpkdckajjooaaGreatDoor
namespace Go.Proofs.YtakpkdckajjooaaGreatDoor
set_option linter.unusedVariables false
open Go.RowKit
theorem grps_len (xs : List Int) (hl : xs.length ≤ 16) : (grp xs).length ≤ 16 ∧ ((grp xs).flatMap tGrp).length ≤ 1000 := by
 have hg := grp_le xs
 have h2 := flat_le tGrp 11 (grp xs) (fun d hd => by have h1 := (hg.2 d hd).1; have h2 := uB_len10 d.1 (by omega); unfold tGrp; simp; omega)
 have h3 : (grp xs).length * 11 ≤ 16 * 11 := Nat.mul_le_mul_right _ (by omega)
 omega
theorem dCode (d : FunD) (w : World) (hd : FunD.ok w d) (hg : GCod d.cod) (hM : MaxIn w) :
  Calls Tryz.prog 91 #[.agg #[.int .i64 d.t, .slice d.l.o d.l.n d.l.cap, .slice d.o d.b.length d.cap]] w (Txt w (tCode d.cod)) := by
 obtain ⟨_, hl, hb, hbc, hbm⟩ := hd
 have hln : d.l.xs.length ≤ 16 := by
  have := hg.1.1
  have e : d.cod.l = d.l.xs := rfl
  rw [e] at this
  omega
 have hk : ∀ x ∈ d.l.xs, 0 ≤ x ∧ x < 256 := fun x hx => by have := isK_or (hg.1.2 x hx); omega
 have hm := hl.most
 unfold maxLen at hm
 refine dCode_core d.t d.l.o d.o d.l.n d.l.cap d.b.length d.cap d.l.xs (bodyT (d.b.map InsD.val)) (by rw [← hl.len]; exact hln) (by omega) hl.le w hl.len (hl.at1 (Nat.le_refl _)) hk (body_len hb hg.2) ⟨(grps_len _ hln).1, (grps_len _ hln).2, fun i => ?_⟩ (fun w' b => ?_)
 ·have := grps_len (d.l.xs.take i) (by rw [List.length_take]; omega)
  unfold grp at this
  rw [List.length_reverse] at this
  exact ⟨this.2, this.1⟩
 ·refine (rnwrite_any d.o d.cap d.b w' (hb.below b) hbc (hM.below b)).mono ?_
  rintro r w'' ⟨b2, ⟨hn, _⟩ | ⟨_, t, rfl, ht⟩⟩
  ·exact absurd ((nChk0 hb).2 hg.2) hn
  ·exact ⟨t, rfl, ht, b2⟩
end Go.Proofs.YtakpkdckajjooaaGreatDoor
