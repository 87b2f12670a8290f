import Derived.Test.YtmmjgdaamkdncaaGreatDoorAQS
namespace Go.Proofs.YtmmjgdaamkdncaaGreatDoor
set_option maxHeartbeats 16000000
set_option maxRecDepth 1000000
set_option linter.unusedVariables false
open Go.RowKit
theorem xpN {β : Type} (val : SigD -> β) (w : World) (L M : List SigD) (o1 o2 : Option Addr) (n m k1 k2 : Nat) (l1 : L.length = n) (l2 : M.length = m) (c1 : n <= k1) (c2 : m <= k2) (m1 : k1 <= 9223372036854775807) (m2 : k2 <= 9223372036854775807)
  (r1 : L = [] \/ ∃ b f,o1 = some ⟨b,f,none⟩ /\ b < w.heap.size /\ ∀ i (h : i < L.length) r,r < 2 -> w.cell? ⟨b,f + i * 2 + r,none⟩ = (SigD.cells L[i])[r]?)
  (r2 : M = [] \/ ∃ b f,o2 = some ⟨b,f,none⟩ /\ b < w.heap.size /\ ∀ i (h : i < M.length) r,r < 2 -> w.cell? ⟨b,f + i * 2 + r,none⟩ = (SigD.cells M[i])[r]?)
  (HONE : Hid (∀ d1 ∈ L,∀ d2 ∈ M,∀ w',Below w.heap.size w w' -> Calls Tryz.prog 23 #[.agg #[.slice d1.i.o d1.i.n d1.i.cap,.slice d1.r.o d1.r.n d1.r.cap],.agg #[.slice d2.i.o d2.i.n d2.i.cap,.slice d2.r.o d2.r.n d2.r.cap]] w' fun e w'' => ∃ b : Bool,e = .returned (.bool b) /\ (b = true ↔ val d1 = val d2) /\ Below w'.heap.size w' w'')) :
  Calls Tryz.prog 22 #[.slice o1 n k1,.slice o2 m k2,.func (.func 23) #[] #[]] w fun r w' => ∃ e : Bool,r = .returned (.bool e) /\ (e = true ↔ L.map val = M.map val) /\ Below w.heap.size w w' := by
 by_cases hn : n = m
 ·subst hn
  have HL1 : Hid (L.length = n) := l1
  have HL2 : Hid (M.length = n) := l2
  by_cases hz : n = 0
  ·subst hz
   have hx : L = [] := List.length_eq_zero_iff.1 l1
   have hy : M = [] := List.length_eq_zero_iff.1 l2
   subst hx
   subst hy
   clear l1 l2 r1 r2
   go_enter Tryz.func22,Tryz.ntmps22
   go_wp2
   go_loopw [15] (fun i wr => i = .int .i64 0 /\ wr = w) (fun _ _ => 0)
   case atStart => exact ⟨rfl,rfl⟩
   case round =>
    obtain ⟨rfl,rfl⟩ := hrel
    go_wp2
    go_ret
    exact ⟨true,rfl,by simp,Below.refl _ _⟩
  obtain ⟨b,f,rfl,hb,h1⟩ := r1.resolve_left (fun e => hz (by rw [<- l1,e]; rfl))
  obtain ⟨b2,f2,rfl,hb2,h2⟩ := r2.resolve_left (fun e => hz (by rw [<- l2,e]; rfl))
  have H1 := kZz h1
  have H2 := kZz h2
  clear h1 h2 l1 l2 hz r1 r2
  go_enter Tryz.func22,Tryz.ntmps22
  go_wp2
  go_loopw [15] (fun i wr => ∃ k : Nat,i = .int .i64 k /\ k <= n /\ Hid ((L.take k).map val = (M.take k).map val) /\ Hid (Below w.heap.size w wr)) (fun i _ => n - (intOf i).toNat)
  case atStart => exact ⟨0,rfl,by omega,rfl,Below.refl _ _⟩
  case round =>
   obtain ⟨k,rfl,hk,HT,HB⟩ := hrel
   have hws := HB.out.size
   by_cases hlt : k < n
   ·have hx : k < L.length := by rw [HL1.out]; exact hlt
    have hy : k < M.length := by rw [HL2.out]; exact hlt
    have HN : Hid (val L[k] ≠ val M[k] -> L.map val ≠ M.map val) := xeS val hx hy
    have HE : Hid (val L[k] = val M[k] -> (L.take (k + 1)).map val = (M.take (k + 1)).map val) := xeR val hx hy HT.out
    have HO := HONE.out L[k] (List.getElem_mem hx) M[k] (List.getElem_mem hy)
    have HC1 : Hid (∀ r,r < 2 -> wr.cell? ⟨b,f + k * 2 + r,none⟩ = (SigD.cells L[k])[r]?) := fun r hr => by
     rw [HB.out.cell (p := ⟨b,f + k * 2 + r,none⟩) hb]
     exact H1.out k hx r hr
    have HC2 : Hid (∀ r,r < 2 -> wr.cell? ⟨b2,f2 + k * 2 + r,none⟩ = (SigD.cells M[k])[r]?) := fun r hr => by
     rw [HB.out.cell (p := ⟨b2,f2 + k * 2 + r,none⟩) hb2]
     exact H2.out k hy r hr
    generalize L[k] = d1 at HN HE HC1 HO
    generalize M[k] = d2 at HN HE HC2 HO
    have HS := kZz HO
    clear HO
    have e0 : wr.cell? ⟨b,f + k * 2,none⟩ = some (.slice d1.i.o d1.i.n d1.i.cap) := HC1.out 0 (by omega)
    have q0 : wr.cell? ⟨b2,f2 + k * 2,none⟩ = some (.slice d2.i.o d2.i.n d2.i.cap) := HC2.out 0 (by omega)
    have e1 : wr.cell? ⟨b,f + k * 2 + 1,none⟩ = some (.slice d1.r.o d1.r.n d1.r.cap) := HC1.out 1 (by omega)
    have q1 : wr.cell? ⟨b2,f2 + k * 2 + 1,none⟩ = some (.slice d2.r.o d2.r.n d2.r.cap) := HC2.out 1 (by omega)
    have hki0 : (0 : Int) <= (k : Int) := by omega
    have hki1 : (k : Int) < (n : Int) := by omega
    clear HT hx hy HC1 HC2
    go_wp2
    go_region_with (go_at_call 23; refine (HS.out _ HB.out.drew).mono ?_; rintro r w2 ⟨c,rfl,hiff,b2'⟩)
    all_goals
     have HB2 : Hid (Below w.heap.size w w2) := HB.out.drew.trans (b2'.mono HB.out.size)
     have HIF := kZz hiff
     clear b2' hiff
     cases c with
     | true =>
      have HE2 : Hid ((L.take (k + 1)).map val = (M.take (k + 1)).map val) := HE.out (HIF.out.1 rfl)
      go_wp2
      go_roundw
      case rel => exact ⟨k + 1,by go_num,by omega,HE2,HB2⟩
      case measure => simp [intOf]; omega
     | false =>
      have HD : Hid (L.map val ≠ M.map val) := HN.out (fun e => absurd (HIF.out.2 e) (by decide))
      go_wp2
      go_ret
      exact ⟨false,rfl,by simpa using HD.out,HB2.out⟩
   ·have HD : Hid (L.map val = M.map val) := by
     have h := HT.out
     rw [List.take_of_length_le (by rw [HL1.out]; omega),List.take_of_length_le (by rw [HL2.out]; omega)] at h
     exact h
    clear HT
    go_wp2
    go_ret
    exact ⟨true,rfl,by simpa using HD.out,HB.out⟩
 ·have HD : Hid (L.map val ≠ M.map val) := by
   intro e
   have := congrArg List.length e
   rw [List.length_map,List.length_map] at this
   omega
  have hb1 : ((n : Int) == (m : Int)) = false := by rw [beq_eq_false_iff_ne]; omega
  have hb2 : ((n : Int) != (m : Int)) = true := by rw [bne,hb1]; rfl
  clear r1 r2 l1 l2 hn
  go_enter Tryz.func22,Tryz.ntmps22
  go_wp2
  go_ret
  exact ⟨false,rfl,by simpa using HD.out,Below.refl _ _⟩
theorem xpL {β : Type} (val : FunD -> β) (w : World) (L M : List FunD) (o1 o2 : Option Addr) (n m k1 k2 : Nat) (l1 : L.length = n) (l2 : M.length = m) (c1 : n <= k1) (c2 : m <= k2) (m1 : k1 <= 9223372036854775807) (m2 : k2 <= 9223372036854775807)
  (r1 : L = [] \/ ∃ b f,o1 = some ⟨b,f,none⟩ /\ b < w.heap.size /\ ∀ i (h : i < L.length) r,r < 3 -> w.cell? ⟨b,f + i * 3 + r,none⟩ = (FunD.cells L[i])[r]?)
  (r2 : M = [] \/ ∃ b f,o2 = some ⟨b,f,none⟩ /\ b < w.heap.size /\ ∀ i (h : i < M.length) r,r < 3 -> w.cell? ⟨b,f + i * 3 + r,none⟩ = (FunD.cells M[i])[r]?)
  (HONE : Hid (∀ d1 ∈ L,∀ d2 ∈ M,∀ w',Below w.heap.size w w' -> Calls Tryz.prog 17 #[.agg #[.int .i64 d1.t,.slice d1.l.o d1.l.n d1.l.cap,.slice d1.o d1.b.length d1.cap],.agg #[.int .i64 d2.t,.slice d2.l.o d2.l.n d2.l.cap,.slice d2.o d2.b.length d2.cap]] w' fun e w'' => ∃ b : Bool,e = .returned (.bool b) /\ (b = true ↔ val d1 = val d2) /\ Below w'.heap.size w' w'')) :
  Calls Tryz.prog 25 #[.slice o1 n k1,.slice o2 m k2,.func (.func 17) #[] #[]] w fun r w' => ∃ e : Bool,r = .returned (.bool e) /\ (e = true ↔ L.map val = M.map val) /\ Below w.heap.size w w' := by
 by_cases hn : n = m
 ·subst hn
  have HL1 : Hid (L.length = n) := l1
  have HL2 : Hid (M.length = n) := l2
  by_cases hz : n = 0
  ·subst hz
   have hx : L = [] := List.length_eq_zero_iff.1 l1
   have hy : M = [] := List.length_eq_zero_iff.1 l2
   subst hx
   subst hy
   clear l1 l2 r1 r2
   go_enter Tryz.func25,Tryz.ntmps25
   go_wp2
   go_loopw [15] (fun i wr => i = .int .i64 0 /\ wr = w) (fun _ _ => 0)
   case atStart => exact ⟨rfl,rfl⟩
   case round =>
    obtain ⟨rfl,rfl⟩ := hrel
    go_wp2
    go_ret
    exact ⟨true,rfl,by simp,Below.refl _ _⟩
  obtain ⟨b,f,rfl,hb,h1⟩ := r1.resolve_left (fun e => hz (by rw [<- l1,e]; rfl))
  obtain ⟨b2,f2,rfl,hb2,h2⟩ := r2.resolve_left (fun e => hz (by rw [<- l2,e]; rfl))
  have H1 := kZz h1
  have H2 := kZz h2
  clear h1 h2 l1 l2 hz r1 r2
  go_enter Tryz.func25,Tryz.ntmps25
  go_wp2
  go_loopw [15] (fun i wr => ∃ k : Nat,i = .int .i64 k /\ k <= n /\ Hid ((L.take k).map val = (M.take k).map val) /\ Hid (Below w.heap.size w wr)) (fun i _ => n - (intOf i).toNat)
  case atStart => exact ⟨0,rfl,by omega,rfl,Below.refl _ _⟩
  case round =>
   obtain ⟨k,rfl,hk,HT,HB⟩ := hrel
   have hws := HB.out.size
   by_cases hlt : k < n
   ·have hx : k < L.length := by rw [HL1.out]; exact hlt
    have hy : k < M.length := by rw [HL2.out]; exact hlt
    have HN : Hid (val L[k] ≠ val M[k] -> L.map val ≠ M.map val) := xeS val hx hy
    have HE : Hid (val L[k] = val M[k] -> (L.take (k + 1)).map val = (M.take (k + 1)).map val) := xeR val hx hy HT.out
    have HO := HONE.out L[k] (List.getElem_mem hx) M[k] (List.getElem_mem hy)
    have HC1 : Hid (∀ r,r < 3 -> wr.cell? ⟨b,f + k * 3 + r,none⟩ = (FunD.cells L[k])[r]?) := fun r hr => by
     rw [HB.out.cell (p := ⟨b,f + k * 3 + r,none⟩) hb]
     exact H1.out k hx r hr
    have HC2 : Hid (∀ r,r < 3 -> wr.cell? ⟨b2,f2 + k * 3 + r,none⟩ = (FunD.cells M[k])[r]?) := fun r hr => by
     rw [HB.out.cell (p := ⟨b2,f2 + k * 3 + r,none⟩) hb2]
     exact H2.out k hy r hr
    generalize L[k] = d1 at HN HE HC1 HO
    generalize M[k] = d2 at HN HE HC2 HO
    have HS := kZz HO
    clear HO
    have e0 : wr.cell? ⟨b,f + k * 3,none⟩ = some (.int .i64 d1.t) := HC1.out 0 (by omega)
    have q0 : wr.cell? ⟨b2,f2 + k * 3,none⟩ = some (.int .i64 d2.t) := HC2.out 0 (by omega)
    have e1 : wr.cell? ⟨b,f + k * 3 + 1,none⟩ = some (.slice d1.l.o d1.l.n d1.l.cap) := HC1.out 1 (by omega)
    have q1 : wr.cell? ⟨b2,f2 + k * 3 + 1,none⟩ = some (.slice d2.l.o d2.l.n d2.l.cap) := HC2.out 1 (by omega)
    have e2 : wr.cell? ⟨b,f + k * 3 + 2,none⟩ = some (.slice d1.o d1.b.length d1.cap) := HC1.out 2 (by omega)
    have q2 : wr.cell? ⟨b2,f2 + k * 3 + 2,none⟩ = some (.slice d2.o d2.b.length d2.cap) := HC2.out 2 (by omega)
    have hki0 : (0 : Int) <= (k : Int) := by omega
    have hki1 : (k : Int) < (n : Int) := by omega
    clear HT hx hy HC1 HC2
    go_wp2
    go_region_with (go_at_call 17; refine (HS.out _ HB.out.drew).mono ?_; rintro r w2 ⟨c,rfl,hiff,b2'⟩)
    all_goals
     have HB2 : Hid (Below w.heap.size w w2) := HB.out.drew.trans (b2'.mono HB.out.size)
     have HIF := kZz hiff
     clear b2' hiff
     cases c with
     | true =>
      have HE2 : Hid ((L.take (k + 1)).map val = (M.take (k + 1)).map val) := HE.out (HIF.out.1 rfl)
      go_wp2
      go_roundw
      case rel => exact ⟨k + 1,by go_num,by omega,HE2,HB2⟩
      case measure => simp [intOf]; omega
     | false =>
      have HD : Hid (L.map val ≠ M.map val) := HN.out (fun e => absurd (HIF.out.2 e) (by decide))
      go_wp2
      go_ret
      exact ⟨false,rfl,by simpa using HD.out,HB2.out⟩
   ·have HD : Hid (L.map val = M.map val) := by
     have h := HT.out
     rw [List.take_of_length_le (by rw [HL1.out]; omega),List.take_of_length_le (by rw [HL2.out]; omega)] at h
     exact h
    clear HT
    go_wp2
    go_ret
    exact ⟨true,rfl,by simpa using HD.out,HB.out⟩
 ·have HD : Hid (L.map val ≠ M.map val) := by
   intro e
   have := congrArg List.length e
   rw [List.length_map,List.length_map] at this
   omega
  have hb1 : ((n : Int) == (m : Int)) = false := by rw [beq_eq_false_iff_ne]; omega
  have hb2 : ((n : Int) != (m : Int)) = true := by rw [bne,hb1]; rfl
  clear r1 r2 l1 l2 hn
  go_enter Tryz.func25,Tryz.ntmps25
  go_wp2
  go_ret
  exact ⟨false,rfl,by simpa using HD.out,Below.refl _ _⟩
theorem xpK {β : Type} (val : EleD -> β) (w : World) (L M : List EleD) (o1 o2 : Option Addr) (n m k1 k2 : Nat) (l1 : L.length = n) (l2 : M.length = m) (c1 : n <= k1) (c2 : m <= k2) (m1 : k1 <= 9223372036854775807) (m2 : k2 <= 9223372036854775807)
  (r1 : L = [] \/ ∃ b f,o1 = some ⟨b,f,none⟩ /\ b < w.heap.size /\ ∀ i (h : i < L.length) r,r < 2 -> w.cell? ⟨b,f + i * 2 + r,none⟩ = (EleD.cells L[i])[r]?)
  (r2 : M = [] \/ ∃ b f,o2 = some ⟨b,f,none⟩ /\ b < w.heap.size /\ ∀ i (h : i < M.length) r,r < 2 -> w.cell? ⟨b,f + i * 2 + r,none⟩ = (EleD.cells M[i])[r]?)
  (HONE : Hid (∀ d1 ∈ L,∀ d2 ∈ M,∀ w',Below w.heap.size w w' -> Calls Tryz.prog 20 #[.agg #[.int .i64 d1.a,.slice d1.f.o d1.f.n d1.f.cap],.agg #[.int .i64 d2.a,.slice d2.f.o d2.f.n d2.f.cap]] w' fun e w'' => ∃ b : Bool,e = .returned (.bool b) /\ (b = true ↔ val d1 = val d2) /\ Below w'.heap.size w' w'')) :
  Calls Tryz.prog 28 #[.slice o1 n k1,.slice o2 m k2,.func (.func 20) #[] #[]] w fun r w' => ∃ e : Bool,r = .returned (.bool e) /\ (e = true ↔ L.map val = M.map val) /\ Below w.heap.size w w' := by
 by_cases hn : n = m
 ·subst hn
  have HL1 : Hid (L.length = n) := l1
  have HL2 : Hid (M.length = n) := l2
  by_cases hz : n = 0
  ·subst hz
   have hx : L = [] := List.length_eq_zero_iff.1 l1
   have hy : M = [] := List.length_eq_zero_iff.1 l2
   subst hx
   subst hy
   clear l1 l2 r1 r2
   go_enter Tryz.func28,Tryz.ntmps28
   go_wp2
   go_loopw [15] (fun i wr => i = .int .i64 0 /\ wr = w) (fun _ _ => 0)
   case atStart => exact ⟨rfl,rfl⟩
   case round =>
    obtain ⟨rfl,rfl⟩ := hrel
    go_wp2
    go_ret
    exact ⟨true,rfl,by simp,Below.refl _ _⟩
  obtain ⟨b,f,rfl,hb,h1⟩ := r1.resolve_left (fun e => hz (by rw [<- l1,e]; rfl))
  obtain ⟨b2,f2,rfl,hb2,h2⟩ := r2.resolve_left (fun e => hz (by rw [<- l2,e]; rfl))
  have H1 := kZz h1
  have H2 := kZz h2
  clear h1 h2 l1 l2 hz r1 r2
  go_enter Tryz.func28,Tryz.ntmps28
  go_wp2
  go_loopw [15] (fun i wr => ∃ k : Nat,i = .int .i64 k /\ k <= n /\ Hid ((L.take k).map val = (M.take k).map val) /\ Hid (Below w.heap.size w wr)) (fun i _ => n - (intOf i).toNat)
  case atStart => exact ⟨0,rfl,by omega,rfl,Below.refl _ _⟩
  case round =>
   obtain ⟨k,rfl,hk,HT,HB⟩ := hrel
   have hws := HB.out.size
   by_cases hlt : k < n
   ·have hx : k < L.length := by rw [HL1.out]; exact hlt
    have hy : k < M.length := by rw [HL2.out]; exact hlt
    have HN : Hid (val L[k] ≠ val M[k] -> L.map val ≠ M.map val) := xeS val hx hy
    have HE : Hid (val L[k] = val M[k] -> (L.take (k + 1)).map val = (M.take (k + 1)).map val) := xeR val hx hy HT.out
    have HO := HONE.out L[k] (List.getElem_mem hx) M[k] (List.getElem_mem hy)
    have HC1 : Hid (∀ r,r < 2 -> wr.cell? ⟨b,f + k * 2 + r,none⟩ = (EleD.cells L[k])[r]?) := fun r hr => by
     rw [HB.out.cell (p := ⟨b,f + k * 2 + r,none⟩) hb]
     exact H1.out k hx r hr
    have HC2 : Hid (∀ r,r < 2 -> wr.cell? ⟨b2,f2 + k * 2 + r,none⟩ = (EleD.cells M[k])[r]?) := fun r hr => by
     rw [HB.out.cell (p := ⟨b2,f2 + k * 2 + r,none⟩) hb2]
     exact H2.out k hy r hr
    generalize L[k] = d1 at HN HE HC1 HO
    generalize M[k] = d2 at HN HE HC2 HO
    have HS := kZz HO
    clear HO
    have e0 : wr.cell? ⟨b,f + k * 2,none⟩ = some (.int .i64 d1.a) := HC1.out 0 (by omega)
    have q0 : wr.cell? ⟨b2,f2 + k * 2,none⟩ = some (.int .i64 d2.a) := HC2.out 0 (by omega)
    have e1 : wr.cell? ⟨b,f + k * 2 + 1,none⟩ = some (.slice d1.f.o d1.f.n d1.f.cap) := HC1.out 1 (by omega)
    have q1 : wr.cell? ⟨b2,f2 + k * 2 + 1,none⟩ = some (.slice d2.f.o d2.f.n d2.f.cap) := HC2.out 1 (by omega)
    have hki0 : (0 : Int) <= (k : Int) := by omega
    have hki1 : (k : Int) < (n : Int) := by omega
    clear HT hx hy HC1 HC2
    go_wp2
    go_region_with (go_at_call 20; refine (HS.out _ HB.out.drew).mono ?_; rintro r w2 ⟨c,rfl,hiff,b2'⟩)
    all_goals
     have HB2 : Hid (Below w.heap.size w w2) := HB.out.drew.trans (b2'.mono HB.out.size)
     have HIF := kZz hiff
     clear b2' hiff
     cases c with
     | true =>
      have HE2 : Hid ((L.take (k + 1)).map val = (M.take (k + 1)).map val) := HE.out (HIF.out.1 rfl)
      go_wp2
      go_roundw
      case rel => exact ⟨k + 1,by go_num,by omega,HE2,HB2⟩
      case measure => simp [intOf]; omega
     | false =>
      have HD : Hid (L.map val ≠ M.map val) := HN.out (fun e => absurd (HIF.out.2 e) (by decide))
      go_wp2
      go_ret
      exact ⟨false,rfl,by simpa using HD.out,HB2.out⟩
   ·have HD : Hid (L.map val = M.map val) := by
     have h := HT.out
     rw [List.take_of_length_le (by rw [HL1.out]; omega),List.take_of_length_le (by rw [HL2.out]; omega)] at h
     exact h
    clear HT
    go_wp2
    go_ret
    exact ⟨true,rfl,by simpa using HD.out,HB.out⟩
 ·have HD : Hid (L.map val ≠ M.map val) := by
   intro e
   have := congrArg List.length e
   rw [List.length_map,List.length_map] at this
   omega
  have hb1 : ((n : Int) == (m : Int)) = false := by rw [beq_eq_false_iff_ne]; omega
  have hb2 : ((n : Int) != (m : Int)) = true := by rw [bne,hb1]; rfl
  clear r1 r2 l1 l2 hn
  go_enter Tryz.func28,Tryz.ntmps28
  go_wp2
  go_ret
  exact ⟨false,rfl,by simpa using HD.out,Below.refl _ _⟩
theorem LJ.at1 {w0 : World} {o : Option Addr} {n : Nat} {xs : List Int} {N : Nat} (h : LJ w0 o n xs) (hN : w0.heap.size <= N) : xs = [] \/ ∃ b f,o = some ⟨b,f,none⟩ /\ b < N /\ ∀ i (h : i < xs.length) r,r < 1 -> w0.cell? ⟨b,f + i * 1 + r,none⟩ = ([Value.int .i64 xs[i]])[r]? := by
 rcases h.2 with h0 | ⟨a,h1,h2,h3⟩
 ·left
  have := h.1
  rw [h0] at this
  exact List.length_eq_zero_iff.1 this
 ·rcases Nat.eq_zero_or_pos n with h0 | h0
  ·left
   have := h.1
   rw [h0] at this
   exact List.length_eq_zero_iff.1 this
  ·right
   obtain ⟨b,f,sp⟩ := a
   have hc0 := h3 0 h0
   have hsp : sp = none := by simpa [Addr.add] using World.cell?_spot hc0
   subst hsp
   refine ⟨b,f,h1,by have h2 : b < w0.heap.size := h2; omega,fun i hi r hr => ?_⟩
   obtain rfl : r = 0 := by omega
   have hadd : (⟨b,f,none⟩ : Addr).add i = ⟨b,f + i,none⟩ := by unfold Addr.add; split <;> simp_all
   have := h3 i (by rw [<- h.1]; exact hi)
   rw [hadd] at this
   rw [Nat.mul_one,Nat.add_zero,this,List.getD_eq_getElem?_getD,List.getElem?_eq_getElem hi]
   rfl
def xhF (d : InsD) : List Value := [.int .u8 d.op,.int .i64 d.A,.int .i64 d.B,.slice d.o d.n d.cap]
theorem xnL (op A B op' A' B' : Int) (o o' : Option Addr) (n cap n' cap' : Nat) (c : Bool) (w : World) (HE : Hid (∀ w',Below w.heap.size w w' -> Calls Tryz.prog 71 #[.slice o n cap,.slice o' n' cap'] w' fun r w'' => r = .returned (.bool c) /\ w'' = w')) :
  Calls Tryz.prog 45 #[.agg #[.int .u8 op,.int .i64 A,.int .i64 B,.slice o n cap],.agg #[.int .u8 op',.int .i64 A',.int .i64 B',.slice o' n' cap']] w fun r w' => (∃ b : Bool,r = .returned (.bool b) /\ (b = true ↔ (op = op' /\ A = A' /\ B = B' /\ c = true))) /\ Below w.heap.size w w' := by
 by_cases h1 : op = op'
 ·subst h1
  by_cases h2 : A = A'
  ·subst h2
   by_cases h3 : B = B'
   ·subst h3
    go_enter Tryz.func45,Tryz.ntmps45
    go_wp2_with fail
    refine (HE.out _ (((Below.refl _ _).alloc (Nat.le_refl _) _).alloc (by simp) _)).mono ?_
    rintro e w1 ⟨rfl,rfl⟩
    go_wp2
    go_ret
    exact ⟨⟨c,rfl,⟨fun h => ⟨trivial,trivial,trivial,h⟩,fun h => h.2.2.2⟩⟩,((Below.refl _ _).alloc (Nat.le_refl _) _).alloc (by simp) _⟩
   ·have hb : (B == B') = false := beq_eq_false_iff_ne.2 h3
    have HI : Hid (B ≠ B') := h3
    clear h3
    go_enter Tryz.func45,Tryz.ntmps45
    go_wp2
    go_ret
    exact ⟨⟨false,rfl,⟨fun h => absurd h (by decide),fun h => absurd h.2.2.1 HI.out⟩⟩,((Below.refl _ _).alloc (Nat.le_refl _) _).alloc (by simp) _⟩
  ·have hb : (A == A') = false := beq_eq_false_iff_ne.2 h2
   have HI : Hid (A ≠ A') := h2
   clear h2
   go_enter Tryz.func45,Tryz.ntmps45
   go_wp2
   go_ret
   exact ⟨⟨false,rfl,⟨fun h => absurd h (by decide),fun h => absurd h.2.1 HI.out⟩⟩,((Below.refl _ _).alloc (Nat.le_refl _) _).alloc (by simp) _⟩
 ·have hb : (op == op') = false := beq_eq_false_iff_ne.2 h1
  have HI : Hid (op ≠ op') := h1
  clear h1
  go_enter Tryz.func45,Tryz.ntmps45
  go_wp2
  go_ret
  exact ⟨⟨false,rfl,⟨fun h => absurd h (by decide),fun h => absurd h.1 HI.out⟩⟩,((Below.refl _ _).alloc (Nat.le_refl _) _).alloc (by simp) _⟩
theorem xpQ (w : World) (d1 d2 : InsD) (h1 : d1.ok w) (h2 : d2.ok w) :
  Calls Tryz.prog 45 #[.agg #[.int .u8 d1.op,.int .i64 d1.A,.int .i64 d1.B,.slice d1.o d1.n d1.cap],.agg #[.int .u8 d2.op,.int .i64 d2.A,.int .i64 d2.B,.slice d2.o d2.n d2.cap]] w fun e w' => ∃ b : Bool,e = .returned (.bool b) /\ (b = true ↔ d1.val = d2.val) /\ Below w.heap.size w w' := by
 have m1 := h1.most
 have m2 := h2.most
 unfold maxLen at m1 m2
 refine (xnL d1.op d1.A d1.B d2.op d2.A d2.B d1.o d2.o d1.n d1.cap d2.n d2.cap (decide (d1.xs = d2.xs)) w (fun w' bb => ?_)).mono ?_
 ·have g1 := h1.lj.below bb
  have g2 := h2.lj.below bb
  exact yeB w' d1.o d2.o d1.n d1.cap d2.n d2.cap _ _ d1.xs d2.xs (g1.at1 (Nat.le_refl _)) (g2.at1 (Nat.le_refl _)) g1.1 g2.1 h1.cap h2.cap (by omega) (by omega)
 ·rintro e w' ⟨⟨b,rfl,hb⟩,bb⟩
  refine ⟨b,rfl,?_,bb⟩
  rw [hb,decide_eq_true_eq]
  unfold InsD.val
  rw [V4.mk.injEq]
theorem xpM {β : Type} (val : InsD -> β) (w : World) (L M : List InsD) (o1 o2 : Option Addr) (n m k1 k2 : Nat) (l1 : L.length = n) (l2 : M.length = m) (c1 : n <= k1) (c2 : m <= k2) (m1 : k1 <= 9223372036854775807) (m2 : k2 <= 9223372036854775807)
  (r1 : L = [] \/ ∃ b f,o1 = some ⟨b,f,none⟩ /\ b < w.heap.size /\ ∀ i (h : i < L.length) r,r < 4 -> w.cell? ⟨b,f + i * 4 + r,none⟩ = (xhF L[i])[r]?)
  (r2 : M = [] \/ ∃ b f,o2 = some ⟨b,f,none⟩ /\ b < w.heap.size /\ ∀ i (h : i < M.length) r,r < 4 -> w.cell? ⟨b,f + i * 4 + r,none⟩ = (xhF M[i])[r]?)
  (HONE : Hid (∀ d1 ∈ L,∀ d2 ∈ M,∀ w',Below w.heap.size w w' -> Calls Tryz.prog 45 #[.agg #[.int .u8 d1.op,.int .i64 d1.A,.int .i64 d1.B,.slice d1.o d1.n d1.cap],.agg #[.int .u8 d2.op,.int .i64 d2.A,.int .i64 d2.B,.slice d2.o d2.n d2.cap]] w' fun e w'' => ∃ b : Bool,e = .returned (.bool b) /\ (b = true ↔ val d1 = val d2) /\ Below w'.heap.size w' w'')) :
  Calls Tryz.prog 44 #[.slice o1 n k1,.slice o2 m k2,.func (.func 45) #[] #[]] w fun r w' => ∃ e : Bool,r = .returned (.bool e) /\ (e = true ↔ L.map val = M.map val) /\ Below w.heap.size w w' := by
 by_cases hn : n = m
 ·subst hn
  have HL1 : Hid (L.length = n) := l1
  have HL2 : Hid (M.length = n) := l2
  by_cases hz : n = 0
  ·subst hz
   have hx : L = [] := List.length_eq_zero_iff.1 l1
   have hy : M = [] := List.length_eq_zero_iff.1 l2
   subst hx
   subst hy
   clear l1 l2 r1 r2
   go_enter Tryz.func44,Tryz.ntmps44
   go_wp2
   go_loopw [15] (fun i wr => i = .int .i64 0 /\ wr = w) (fun _ _ => 0)
   case atStart => exact ⟨rfl,rfl⟩
   case round =>
    obtain ⟨rfl,rfl⟩ := hrel
    go_wp2
    go_ret
    exact ⟨true,rfl,by simp,Below.refl _ _⟩
  obtain ⟨b,f,rfl,hb,h1⟩ := r1.resolve_left (fun e => hz (by rw [<- l1,e]; rfl))
  obtain ⟨b2,f2,rfl,hb2,h2⟩ := r2.resolve_left (fun e => hz (by rw [<- l2,e]; rfl))
  have H1 := kZz h1
  have H2 := kZz h2
  clear h1 h2 l1 l2 hz r1 r2
  go_enter Tryz.func44,Tryz.ntmps44
  go_wp2
  go_loopw [15] (fun i wr => ∃ k : Nat,i = .int .i64 k /\ k <= n /\ Hid ((L.take k).map val = (M.take k).map val) /\ Hid (Below w.heap.size w wr)) (fun i _ => n - (intOf i).toNat)
  case atStart => exact ⟨0,rfl,by omega,rfl,Below.refl _ _⟩
  case round =>
   obtain ⟨k,rfl,hk,HT,HB⟩ := hrel
   have hws := HB.out.size
   by_cases hlt : k < n
   ·have hx : k < L.length := by rw [HL1.out]; exact hlt
    have hy : k < M.length := by rw [HL2.out]; exact hlt
    have HN : Hid (val L[k] ≠ val M[k] -> L.map val ≠ M.map val) := xeS val hx hy
    have HE : Hid (val L[k] = val M[k] -> (L.take (k + 1)).map val = (M.take (k + 1)).map val) := xeR val hx hy HT.out
    have HO := HONE.out L[k] (List.getElem_mem hx) M[k] (List.getElem_mem hy)
    have HC1 : Hid (∀ r,r < 4 -> wr.cell? ⟨b,f + k * 4 + r,none⟩ = (xhF L[k])[r]?) := fun r hr => by
     rw [HB.out.cell (p := ⟨b,f + k * 4 + r,none⟩) hb]
     exact H1.out k hx r hr
    have HC2 : Hid (∀ r,r < 4 -> wr.cell? ⟨b2,f2 + k * 4 + r,none⟩ = (xhF M[k])[r]?) := fun r hr => by
     rw [HB.out.cell (p := ⟨b2,f2 + k * 4 + r,none⟩) hb2]
     exact H2.out k hy r hr
    generalize L[k] = d1 at HN HE HC1 HO
    generalize M[k] = d2 at HN HE HC2 HO
    have HS := kZz HO
    clear HO
    have e0 : wr.cell? ⟨b,f + k * 4,none⟩ = some (.int .u8 d1.op) := HC1.out 0 (by omega)
    have q0 : wr.cell? ⟨b2,f2 + k * 4,none⟩ = some (.int .u8 d2.op) := HC2.out 0 (by omega)
    have e1 : wr.cell? ⟨b,f + k * 4 + 1,none⟩ = some (.int .i64 d1.A) := HC1.out 1 (by omega)
    have q1 : wr.cell? ⟨b2,f2 + k * 4 + 1,none⟩ = some (.int .i64 d2.A) := HC2.out 1 (by omega)
    have e2 : wr.cell? ⟨b,f + k * 4 + 2,none⟩ = some (.int .i64 d1.B) := HC1.out 2 (by omega)
    have q2 : wr.cell? ⟨b2,f2 + k * 4 + 2,none⟩ = some (.int .i64 d2.B) := HC2.out 2 (by omega)
    have e3 : wr.cell? ⟨b,f + k * 4 + 3,none⟩ = some (.slice d1.o d1.n d1.cap) := HC1.out 3 (by omega)
    have q3 : wr.cell? ⟨b2,f2 + k * 4 + 3,none⟩ = some (.slice d2.o d2.n d2.cap) := HC2.out 3 (by omega)
    have hki0 : (0 : Int) <= (k : Int) := by omega
    have hki1 : (k : Int) < (n : Int) := by omega
    clear HT hx hy HC1 HC2
    go_wp2
    go_region_with (go_at_call 45; refine (HS.out _ HB.out.drew).mono ?_; rintro r w2 ⟨c,rfl,hiff,b2'⟩)
    all_goals
     have HB2 : Hid (Below w.heap.size w w2) := HB.out.drew.trans (b2'.mono HB.out.size)
     have HIF := kZz hiff
     clear b2' hiff
     cases c with
     | true =>
      have HE2 : Hid ((L.take (k + 1)).map val = (M.take (k + 1)).map val) := HE.out (HIF.out.1 rfl)
      go_wp2
      go_roundw
      case rel => exact ⟨k + 1,by go_num,by omega,HE2,HB2⟩
      case measure => simp [intOf]; omega
     | false =>
      have HD : Hid (L.map val ≠ M.map val) := HN.out (fun e => absurd (HIF.out.2 e) (by decide))
      go_wp2
      go_ret
      exact ⟨false,rfl,by simpa using HD.out,HB2.out⟩
   ·have HD : Hid (L.map val = M.map val) := by
     have h := HT.out
     rw [List.take_of_length_le (by rw [HL1.out]; omega),List.take_of_length_le (by rw [HL2.out]; omega)] at h
     exact h
    clear HT
    go_wp2
    go_ret
    exact ⟨true,rfl,by simpa using HD.out,HB.out⟩
 ·have HD : Hid (L.map val ≠ M.map val) := by
   intro e
   have := congrArg List.length e
   rw [List.length_map,List.length_map] at this
   omega
  have hb1 : ((n : Int) == (m : Int)) = false := by rw [beq_eq_false_iff_ne]; omega
  have hb2 : ((n : Int) != (m : Int)) = true := by rw [bne,hb1]; rfl
  clear r1 r2 l1 l2 hn
  go_enter Tryz.func44,Tryz.ntmps44
  go_wp2
  go_ret
  exact ⟨false,rfl,by simpa using HD.out,Below.refl _ _⟩
theorem LD.rows {w : World} {o : Option Addr} {L : List InsD} (h : LD w o L) : L = [] \/ ∃ b f,o = some ⟨b,f,none⟩ /\ b < w.heap.size /\ ∀ i (h : i < L.length) r,r < 4 -> w.cell? ⟨b,f + i * 4 + r,none⟩ = (xhF L[i])[r]? := by
 rcases h.2 with h0 | ⟨b,f,h1,h2,h3⟩
 ·exact Or.inl h0
 ·refine Or.inr ⟨b,f,h1,h2,fun i hi r hr => ?_⟩
  obtain ⟨g0,g1,g2,g3⟩ := h3 i hi
  match r,hr with
  | 0,_ => exact g0
  | 1,_ => exact g1
  | 2,_ => exact g2
  | 3,_ => exact g3
theorem xlV (o1 o2 : Option Addr) (n1 k1 n2 k2 : Nat) (P : Prop) (w : World) (HS : Hid (Calls Tryz.prog 44 #[.slice o1 n1 k1,.slice o2 n2 k2,.func (.func 45) #[] #[]] w fun r w' => ∃ e : Bool,r = .returned (.bool e) /\ (e = true ↔ P) /\ Below w.heap.size w w')) :
  Calls Tryz.prog 19 #[.slice o1 n1 k1,.slice o2 n2 k2] w fun r w' => ∃ e : Bool,r = .returned (.bool e) /\ (e = true ↔ P) /\ Below w.heap.size w w' := by
 go_enter Tryz.func19,Tryz.ntmps19
 go_wp2_with fail
 refine HS.out.mono ?_
 rintro r w1 ⟨e,rfl,hp,b⟩
 go_wp2
 go_ret
 exact ⟨e,rfl,hp,b⟩
theorem xvP (o1 o2 : Option Addr) (k1 k2 : Nat) (L M : List InsD) (w : World) (h1 : LD w o1 L) (h2 : LD w o2 M) (c1 : L.length <= k1) (c2 : M.length <= k2) (m1 : k1 <= maxLen) (m2 : k2 <= maxLen) :
  Calls Tryz.prog 19 #[.slice o1 L.length k1,.slice o2 M.length k2] w fun r w' => ∃ e : Bool,r = .returned (.bool e) /\ (e = true ↔ L.map InsD.val = M.map InsD.val) /\ Below w.heap.size w w' := by
 unfold maxLen at m1 m2
 exact xlV o1 o2 _ k1 _ k2 _ w (xpM InsD.val w L M o1 o2 _ _ k1 k2 rfl rfl c1 c2 (by omega) (by omega) h1.rows h2.rows (fun d1 hd1 d2 hd2 w' bb => xpQ w' d1 d2 ((h1.1 d1 hd1).below bb) ((h2.1 d2 hd2).below bb)))
theorem xnK (t t' : Int) (o1 o2 p1 p2 : Option Addr) (n1 k1 n2 k2 a1 b1 a2 b2 : Nat) (c : Bool) (P : Prop) (w : World)
  (HE : Hid (∀ w',Below w.heap.size w w' -> Calls Tryz.prog 18 #[.slice o1 n1 k1,.slice o2 n2 k2] w' fun r w'' => r = .returned (.bool c) /\ w'' = w'))
  (HS : Hid (∀ w',Below w.heap.size w w' -> Calls Tryz.prog 19 #[.slice p1 a1 b1,.slice p2 a2 b2] w' fun r w'' => ∃ e : Bool,r = .returned (.bool e) /\ (e = true ↔ P) /\ Below w'.heap.size w' w'')) :
  Calls Tryz.prog 17 #[.agg #[.int .i64 t,.slice o1 n1 k1,.slice p1 a1 b1],.agg #[.int .i64 t',.slice o2 n2 k2,.slice p2 a2 b2]] w fun r w' => ∃ e : Bool,r = .returned (.bool e) /\ (e = true ↔ (t = t' /\ c = true /\ P)) /\ Below w.heap.size w w' := by
 have bA : Below w.heap.size w ((w.alloc (.cells #[.int .i64 t,.slice o1 n1 k1,.slice p1 a1 b1] 55)).alloc (.cells #[.int .i64 t',.slice o2 n2 k2,.slice p2 a2 b2] 55)) := ((Below.refl _ _).alloc (Nat.le_refl _) _).alloc (by simp) _
 have HBA := kZz bA
 have HE1 := kZz (HE.out _ bA)
 have HS1 := kZz (HS.out _ bA)
 clear bA
 by_cases h1 : t = t'
 ·subst h1
  cases c with
  | true =>
   go_enter Tryz.func17,Tryz.ntmps17
   go_wp2_with fail
   refine HE1.out.mono ?_
   rintro e w1 ⟨rfl,rfl⟩
   go_wp2_with fail
   refine HS1.out.mono ?_
   rintro e w2 ⟨d,rfl,hd,b2⟩
   have HD : Hid (d = true ↔ P) := hd
   have HB2 := kZz b2
   clear hd b2
   go_wp2
   go_ret
   exact ⟨d,rfl,by rw [HD.out]; exact ⟨fun h => ⟨trivial,trivial,h⟩,fun h => h.2.2⟩,HBA.out.trans (HB2.out.mono HBA.out.size)⟩
  | false =>
   go_enter Tryz.func17,Tryz.ntmps17
   go_wp2_with fail
   refine HE1.out.mono ?_
   rintro e w1 ⟨rfl,rfl⟩
   go_wp2
   go_ret
   exact ⟨false,rfl,⟨fun h => absurd h (by decide),fun h => absurd h.2.1 (by decide)⟩,HBA.out⟩
 ·have hb : (t == t') = false := beq_eq_false_iff_ne.2 h1
  have HI : Hid (t ≠ t') := h1
  clear h1
  go_enter Tryz.func17,Tryz.ntmps17
  go_wp2
  go_ret
  exact ⟨false,rfl,⟨fun h => absurd h (by decide),fun h => absurd h.1 HI.out⟩,HBA.out⟩
theorem xpP (w : World) (d1 d2 : FunD) (h1 : d1.ok w) (h2 : d2.ok w) :
  Calls Tryz.prog 17 #[.agg #[.int .i64 d1.t,.slice d1.l.o d1.l.n d1.l.cap,.slice d1.o d1.b.length d1.cap],.agg #[.int .i64 d2.t,.slice d2.l.o d2.l.n d2.l.cap,.slice d2.o d2.b.length d2.cap]] w fun e w' => ∃ b : Bool,e = .returned (.bool b) /\ (b = true ↔ (d1.t,d1.cod) = (d2.t,d2.cod)) /\ Below w.heap.size w w' := by
 refine (xnK d1.t d2.t d1.l.o d2.l.o d1.o d2.o d1.l.n d1.l.cap d2.l.n d2.l.cap d1.b.length d1.cap d2.b.length d2.cap (decide (d1.l.xs = d2.l.xs)) (d1.b.map InsD.val = d2.b.map InsD.val) w (fun w' bb => xqN w' d1.l d2.l (h1.2.1.below bb) (h2.2.1.below bb)) (fun w' bb => xvP d1.o d2.o d1.cap d2.cap d1.b d2.b w' (h1.2.2.1.below bb) (h2.2.2.1.below bb) h1.2.2.2.1 h2.2.2.2.1 h1.2.2.2.2 h2.2.2.2.2)).mono ?_
 rintro e w' ⟨b,rfl,hb,bb⟩
 refine ⟨b,rfl,?_,bb⟩
 rw [hb,decide_eq_true_eq,Prod.mk.injEq]
 unfold FunD.cod
 rw [CodV.mk.injEq]
theorem xjG (oT1 oI1 oF1 oG1 oE1 oL1 oD1 oT2 oI2 oF2 oG2 oE2 oL2 oD2 : Option Addr) (nT1 kT1 nI1 kI1 nF1 kF1 nG1 kG1 nE1 kE1 nL1 kL1 nD1 kD1 nT2 kT2 nI2 kI2 nF2 kF2 nG2 kG2 nE2 kE2 nL2 kL2 nD2 kD2 : Nat) (t1 t2 p1 p2 q1 q2 s1 s2 : Int) (PT PI PF PG PE PL PD : Prop) (w : World)
  (HT : Hid (∀ w',Below w.heap.size w w' -> Calls Tryz.prog 22 #[.slice oT1 nT1 kT1,.slice oT2 nT2 kT2,.func (.func 23) #[] #[]] w' fun r w'' => ∃ e : Bool,r = .returned (.bool e) /\ (e = true ↔ PT) /\ Below w'.heap.size w' w''))
  (HI : Hid (∀ w',Below w.heap.size w w' -> Calls Tryz.prog 24 #[.slice oI1 nI1 kI1,.slice oI2 nI2 kI2] w' fun r w'' => ∃ e : Bool,r = .returned (.bool e) /\ (e = true ↔ PI) /\ Below w'.heap.size w' w''))
  (HF : Hid (∀ w',Below w.heap.size w w' -> Calls Tryz.prog 25 #[.slice oF1 nF1 kF1,.slice oF2 nF2 kF2,.func (.func 17) #[] #[]] w' fun r w'' => ∃ e : Bool,r = .returned (.bool e) /\ (e = true ↔ PF) /\ Below w'.heap.size w' w''))
  (HG : Hid (∀ w',Below w.heap.size w w' -> Calls Tryz.prog 26 #[.slice oG1 nG1 kG1,.slice oG2 nG2 kG2] w' fun r w'' => ∃ e : Bool,r = .returned (.bool e) /\ (e = true ↔ PG) /\ Below w'.heap.size w' w''))
  (HE : Hid (∀ w',Below w.heap.size w w' -> Calls Tryz.prog 27 #[.slice oE1 nE1 kE1,.slice oE2 nE2 kE2] w' fun r w'' => ∃ e : Bool,r = .returned (.bool e) /\ (e = true ↔ PE) /\ Below w'.heap.size w' w''))
  (HL : Hid (∀ w',Below w.heap.size w w' -> Calls Tryz.prog 28 #[.slice oL1 nL1 kL1,.slice oL2 nL2 kL2,.func (.func 20) #[] #[]] w' fun r w'' => ∃ e : Bool,r = .returned (.bool e) /\ (e = true ↔ PL) /\ Below w'.heap.size w' w''))
  (HD : Hid (∀ w',Below w.heap.size w w' -> Calls Tryz.prog 29 #[.slice oD1 nD1 kD1,.slice oD2 nD2 kD2] w' fun r w'' => ∃ e : Bool,r = .returned (.bool e) /\ (e = true ↔ PD) /\ Below w'.heap.size w' w'')) :
  Calls Tryz.prog 6 #[.agg #[.slice oT1 nT1 kT1,.slice oI1 nI1 kI1,.slice oF1 nF1 kF1,.int .i64 t1,.int .i64 p1,.int .i64 q1,.slice oG1 nG1 kG1,.slice oE1 nE1 kE1,.int .i64 s1,.slice oL1 nL1 kL1,.slice oD1 nD1 kD1],.agg #[.slice oT2 nT2 kT2,.slice oI2 nI2 kI2,.slice oF2 nF2 kF2,.int .i64 t2,.int .i64 p2,.int .i64 q2,.slice oG2 nG2 kG2,.slice oE2 nE2 kE2,.int .i64 s2,.slice oL2 nL2 kL2,.slice oD2 nD2 kD2]] w fun r w' => ∃ e : Bool,r = .returned (.bool e) /\ (e = true ↔ (PT /\ PI /\ PF /\ t1 = t2 /\ p1 = p2 /\ q1 = q2 /\ PG /\ PE /\ s1 = s2 /\ PL /\ PD)) /\ Below w.heap.size w w' := by
 have bA : Below w.heap.size w ((w.alloc (.cells #[.slice oT1 nT1 kT1,.slice oI1 nI1 kI1,.slice oF1 nF1 kF1,.int .i64 t1,.int .i64 p1,.int .i64 q1,.slice oG1 nG1 kG1,.slice oE1 nE1 kE1,.int .i64 s1,.slice oL1 nL1 kL1,.slice oD1 nD1 kD1] 30)).alloc (.cells #[.slice oT2 nT2 kT2,.slice oI2 nI2 kI2,.slice oF2 nF2 kF2,.int .i64 t2,.int .i64 p2,.int .i64 q2,.slice oG2 nG2 kG2,.slice oE2 nE2 kE2,.int .i64 s2,.slice oL2 nL2 kL2,.slice oD2 nD2 kD2] 30)) := ((Below.refl _ _).alloc (Nat.le_refl _) _).alloc (by simp) _
 have HX : Hid (X11 ((w.alloc (.cells #[.slice oT1 nT1 kT1,.slice oI1 nI1 kI1,.slice oF1 nF1 kF1,.int .i64 t1,.int .i64 p1,.int .i64 q1,.slice oG1 nG1 kG1,.slice oE1 nE1 kE1,.int .i64 s1,.slice oL1 nL1 kL1,.slice oD1 nD1 kD1] 30)).alloc (.cells #[.slice oT2 nT2 kT2,.slice oI2 nI2 kI2,.slice oF2 nF2 kF2,.int .i64 t2,.int .i64 p2,.int .i64 q2,.slice oG2 nG2 kG2,.slice oE2 nE2 kE2,.int .i64 s2,.slice oL2 nL2 kL2,.slice oD2 nD2 kD2] 30)) w.heap.size (.slice oT1 nT1 kT1) (.slice oI1 nI1 kI1) (.slice oF1 nF1 kF1) (.int .i64 t1) (.int .i64 p1) (.int .i64 q1) (.slice oG1 nG1 kG1) (.slice oE1 nE1 kE1) (.int .i64 s1) (.slice oL1 nL1 kL1) (.slice oD1 nD1 kD1)) := by
  show ((w.alloc (.cells #[.slice oT1 nT1 kT1,.slice oI1 nI1 kI1,.slice oF1 nF1 kF1,.int .i64 t1,.int .i64 p1,.int .i64 q1,.slice oG1 nG1 kG1,.slice oE1 nE1 kE1,.int .i64 s1,.slice oL1 nL1 kL1,.slice oD1 nD1 kD1] 30)).alloc (.cells #[.slice oT2 nT2 kT2,.slice oI2 nI2 kI2,.slice oF2 nF2 kF2,.int .i64 t2,.int .i64 p2,.int .i64 q2,.slice oG2 nG2 kG2,.slice oE2 nE2 kE2,.int .i64 s2,.slice oL2 nL2 kL2,.slice oD2 nD2 kD2] 30)).heap[w.heap.size]? = _
  rw [Below.heap_alloc _ _ _ (by simp)]
  exact xaZ _ _
 have HY : Hid (X11 ((w.alloc (.cells #[.slice oT1 nT1 kT1,.slice oI1 nI1 kI1,.slice oF1 nF1 kF1,.int .i64 t1,.int .i64 p1,.int .i64 q1,.slice oG1 nG1 kG1,.slice oE1 nE1 kE1,.int .i64 s1,.slice oL1 nL1 kL1,.slice oD1 nD1 kD1] 30)).alloc (.cells #[.slice oT2 nT2 kT2,.slice oI2 nI2 kI2,.slice oF2 nF2 kF2,.int .i64 t2,.int .i64 p2,.int .i64 q2,.slice oG2 nG2 kG2,.slice oE2 nE2 kE2,.int .i64 s2,.slice oL2 nL2 kL2,.slice oD2 nD2 kD2] 30)) (w.heap.size + 1) (.slice oT2 nT2 kT2) (.slice oI2 nI2 kI2) (.slice oF2 nF2 kF2) (.int .i64 t2) (.int .i64 p2) (.int .i64 q2) (.slice oG2 nG2 kG2) (.slice oE2 nE2 kE2) (.int .i64 s2) (.slice oL2 nL2 kL2) (.slice oD2 nD2 kD2)) := by
  have := xaZ (w.alloc (.cells #[.slice oT1 nT1 kT1,.slice oI1 nI1 kI1,.slice oF1 nF1 kF1,.int .i64 t1,.int .i64 p1,.int .i64 q1,.slice oG1 nG1 kG1,.slice oE1 nE1 kE1,.int .i64 s1,.slice oL1 nL1 kL1,.slice oD1 nD1 kD1] 30)) (.cells #[.slice oT2 nT2 kT2,.slice oI2 nI2 kI2,.slice oF2 nF2 kF2,.int .i64 t2,.int .i64 p2,.int .i64 q2,.slice oG2 nG2 kG2,.slice oE2 nE2 kE2,.int .i64 s2,.slice oL2 nL2 kL2,.slice oD2 nD2 kD2] 30)
  have hs : (w.alloc (.cells #[.slice oT1 nT1 kT1,.slice oI1 nI1 kI1,.slice oF1 nF1 kF1,.int .i64 t1,.int .i64 p1,.int .i64 q1,.slice oG1 nG1 kG1,.slice oE1 nE1 kE1,.int .i64 s1,.slice oL1 nL1 kL1,.slice oD1 nD1 kD1] 30)).heap.size = w.heap.size + 1 := by simp
  rw [hs] at this
  exact this
 obtain ⟨W,hW⟩ : ∃ W,W = ((w.alloc (.cells #[.slice oT1 nT1 kT1,.slice oI1 nI1 kI1,.slice oF1 nF1 kF1,.int .i64 t1,.int .i64 p1,.int .i64 q1,.slice oG1 nG1 kG1,.slice oE1 nE1 kE1,.int .i64 s1,.slice oL1 nL1 kL1,.slice oD1 nD1 kD1] 30)).alloc (.cells #[.slice oT2 nT2 kT2,.slice oI2 nI2 kI2,.slice oF2 nF2 kF2,.int .i64 t2,.int .i64 p2,.int .i64 q2,.slice oG2 nG2 kG2,.slice oE2 nE2 kE2,.int .i64 s2,.slice oL2 nL2 kL2,.slice oD2 nD2 kD2] 30)) := ⟨_,rfl⟩
 have hsz : W.heap.size = w.heap.size + 2 := by rw [hW]; simp
 have HZ : Hid (W.heap.size = w.heap.size + 2) := hsz
 rw [<- hW] at bA HX HY
 have HB : Hid (Below w.heap.size w W) := bA
 have HW : Hid (W = ((w.alloc (.cells #[.slice oT1 nT1 kT1,.slice oI1 nI1 kI1,.slice oF1 nF1 kF1,.int .i64 t1,.int .i64 p1,.int .i64 q1,.slice oG1 nG1 kG1,.slice oE1 nE1 kE1,.int .i64 s1,.slice oL1 nL1 kL1,.slice oD1 nD1 kD1] 30)).alloc (.cells #[.slice oT2 nT2 kT2,.slice oI2 nI2 kI2,.slice oF2 nF2 kF2,.int .i64 t2,.int .i64 p2,.int .i64 q2,.slice oG2 nG2 kG2,.slice oE2 nE2 kE2,.int .i64 s2,.slice oL2 nL2 kL2,.slice oD2 nD2 kD2] 30))) := hW
 have HBW : Hid (Below (w.heap.size + 2) W W) := Below.refl _ _
 have H0 := kZz (HT.out W bA)
 clear bA hW hsz HT
 obtain ⟨Q,hQ⟩ : ∃ Q : Prop,Q = (PT /\ PI /\ PF /\ t1 = t2 /\ p1 = p2 /\ q1 = q2 /\ PG /\ PE /\ s1 = s2 /\ PL /\ PD) := ⟨_,rfl⟩
 rw [<- hQ]
 have HJ0 : Hid (Q -> PT) := fun h => by rw [hQ] at h; exact h.1
 have HJ1 : Hid (Q -> PI) := fun h => by rw [hQ] at h; exact h.2.1
 have HJ2 : Hid (Q -> PF) := fun h => by rw [hQ] at h; exact h.2.2.1
 have HJ3 : Hid (Q -> t1 = t2) := fun h => by rw [hQ] at h; exact h.2.2.2.1
 have HJ4 : Hid (Q -> p1 = p2) := fun h => by rw [hQ] at h; exact h.2.2.2.2.1
 have HJ5 : Hid (Q -> q1 = q2) := fun h => by rw [hQ] at h; exact h.2.2.2.2.2.1
 have HJ6 : Hid (Q -> PG) := fun h => by rw [hQ] at h; exact h.2.2.2.2.2.2.1
 have HJ7 : Hid (Q -> PE) := fun h => by rw [hQ] at h; exact h.2.2.2.2.2.2.2.1
 have HJ8 : Hid (Q -> s1 = s2) := fun h => by rw [hQ] at h; exact h.2.2.2.2.2.2.2.2.1
 have HJ9 : Hid (Q -> PL) := fun h => by rw [hQ] at h; exact h.2.2.2.2.2.2.2.2.2.1
 have HJ10 : Hid (Q -> PD) := fun h => by rw [hQ] at h; exact h.2.2.2.2.2.2.2.2.2.2
 have HQ0 : Hid (PT -> PI -> PF -> t1 = t2 -> p1 = p2 -> q1 = q2 -> PG -> PE -> s1 = s2 -> PL -> PD -> Q) := fun h0 h1 h2 h3 h4 h5 h6 h7 h8 h9 h10 => by rw [hQ]; exact ⟨h0,h1,h2,h3,h4,h5,h6,h7,h8,h9,h10⟩
 clear hQ
 rw [HW.out] at H0
 go_enter Tryz.func6,Tryz.ntmps6
 go_wp2_with fail
 refine H0.out.mono ?_
 rw [<- HW.out]
 clear H0
 rintro r v1 ⟨e,rfl,he,b⟩
 have HB1 : Hid (Below w.heap.size w v1) := HB.out.trans (b.mono HB.out.size)
 have HBW1 : Hid (Below (w.heap.size + 2) W v1) := HBW.out.trans (b.mono (by have h1 := HZ.out; have h2 := HBW.out.size; omega))
 have HE : Hid (e = true ↔ PT) := he
 clear HB HBW b he
 have HB : Hid (Below w.heap.size w v1) := HB1.out
 have HBW : Hid (Below (w.heap.size + 2) W v1) := HBW1.out
 clear HB1 HBW1
 cases e with
 | false =>
  have HN : Hid (¬ PT) := fun h => absurd (HE.out.2 h) (by decide)
  clear HE
  go_wp2
  go_ret
  exact ⟨false,rfl,⟨fun h => absurd h (by decide),fun h => absurd (HJ0.out h) HN.out⟩,HB.out⟩
 | true =>
 have HQ1 : Hid (PI -> PF -> t1 = t2 -> p1 = p2 -> q1 = q2 -> PG -> PE -> s1 = s2 -> PL -> PD -> Q) := HQ0.out (HE.out.1 rfl)
 clear HE HQ0 HJ0
 obtain ⟨c0,c1,c2,c3,c4,c5,c6,c7,c8,c9,c10⟩ := X11.cell (w := v1) ((HBW.out.block w.heap.size (by omega)).trans HX.out)
 obtain ⟨d0,d1,d2,d3,d4,d5,d6,d7,d8,d9,d10⟩ := X11.cell (w := v1) ((HBW.out.block (w.heap.size + 1) (by omega)).trans HY.out)
 go_wp2_with fail
 refine (HI.out _ HB.out).mono ?_
 clear HI c0 c1 c2 c3 c4 c5 c6 c7 c8 c9 c10 d0 d1 d2 d3 d4 d5 d6 d7 d8 d9 d10
 rintro r v2 ⟨e,rfl,he,b⟩
 have HB1 : Hid (Below w.heap.size w v2) := HB.out.trans (b.mono HB.out.size)
 have HBW1 : Hid (Below (w.heap.size + 2) W v2) := HBW.out.trans (b.mono (by have h1 := HZ.out; have h2 := HBW.out.size; omega))
 have HE : Hid (e = true ↔ PI) := he
 clear HB HBW b he
 have HB : Hid (Below w.heap.size w v2) := HB1.out
 have HBW : Hid (Below (w.heap.size + 2) W v2) := HBW1.out
 clear HB1 HBW1
 cases e with
 | false =>
  have HN : Hid (¬ PI) := fun h => absurd (HE.out.2 h) (by decide)
  clear HE
  go_wp2
  go_ret
  exact ⟨false,rfl,⟨fun h => absurd h (by decide),fun h => absurd (HJ1.out h) HN.out⟩,HB.out⟩
 | true =>
 have HQ2 : Hid (PF -> t1 = t2 -> p1 = p2 -> q1 = q2 -> PG -> PE -> s1 = s2 -> PL -> PD -> Q) := HQ1.out (HE.out.1 rfl)
 clear HE HQ1 HJ1
 obtain ⟨c0,c1,c2,c3,c4,c5,c6,c7,c8,c9,c10⟩ := X11.cell (w := v2) ((HBW.out.block w.heap.size (by omega)).trans HX.out)
 obtain ⟨d0,d1,d2,d3,d4,d5,d6,d7,d8,d9,d10⟩ := X11.cell (w := v2) ((HBW.out.block (w.heap.size + 1) (by omega)).trans HY.out)
 go_wp2_with fail
 refine (HF.out _ HB.out).mono ?_
 clear HF c0 c1 c2 c3 c4 c5 c6 c7 c8 c9 c10 d0 d1 d2 d3 d4 d5 d6 d7 d8 d9 d10
 rintro r v3 ⟨e,rfl,he,b⟩
 have HB1 : Hid (Below w.heap.size w v3) := HB.out.trans (b.mono HB.out.size)
 have HBW1 : Hid (Below (w.heap.size + 2) W v3) := HBW.out.trans (b.mono (by have h1 := HZ.out; have h2 := HBW.out.size; omega))
 have HE : Hid (e = true ↔ PF) := he
 clear HB HBW b he
 have HB : Hid (Below w.heap.size w v3) := HB1.out
 have HBW : Hid (Below (w.heap.size + 2) W v3) := HBW1.out
 clear HB1 HBW1
 cases e with
 | false =>
  have HN : Hid (¬ PF) := fun h => absurd (HE.out.2 h) (by decide)
  clear HE
  go_wp2
  go_ret
  exact ⟨false,rfl,⟨fun h => absurd h (by decide),fun h => absurd (HJ2.out h) HN.out⟩,HB.out⟩
 | true =>
 have HQ3 : Hid (t1 = t2 -> p1 = p2 -> q1 = q2 -> PG -> PE -> s1 = s2 -> PL -> PD -> Q) := HQ2.out (HE.out.1 rfl)
 clear HE HQ2 HJ2
 obtain ⟨c0,c1,c2,c3,c4,c5,c6,c7,c8,c9,c10⟩ := X11.cell (w := v3) ((HBW.out.block w.heap.size (by omega)).trans HX.out)
 obtain ⟨d0,d1,d2,d3,d4,d5,d6,d7,d8,d9,d10⟩ := X11.cell (w := v3) ((HBW.out.block (w.heap.size + 1) (by omega)).trans HY.out)
 by_cases ht : ¬ t1 = t2
 ·have hb : (t1 == t2) = false := beq_eq_false_iff_ne.2 ht
  have HN : Hid (t1 ≠ t2) := ht
  clear ht
  go_wp2
  go_ret
  exact ⟨false,rfl,⟨fun h => absurd h (by decide),fun h => absurd (HJ3.out h) HN.out⟩,HB.out⟩
 have ht' : t1 = t2 := Decidable.not_not.1 ht
 clear ht
 have HQ4 : Hid (p1 = p2 -> q1 = q2 -> PG -> PE -> s1 = s2 -> PL -> PD -> Q) := HQ3.out ht'
 clear HQ3 HJ3
 subst ht'
 by_cases hp : ¬ p1 = p2
 ·have hb : (p1 == p2) = false := beq_eq_false_iff_ne.2 hp
  have HN : Hid (p1 ≠ p2) := hp
  clear hp
  go_wp2
  go_ret
  exact ⟨false,rfl,⟨fun h => absurd h (by decide),fun h => absurd (HJ4.out h) HN.out⟩,HB.out⟩
 have hp' : p1 = p2 := Decidable.not_not.1 hp
 clear hp
 have HQ5 : Hid (q1 = q2 -> PG -> PE -> s1 = s2 -> PL -> PD -> Q) := HQ4.out hp'
 clear HQ4 HJ4
 subst hp'
 by_cases hq : ¬ q1 = q2
 ·have hb : (q1 == q2) = false := beq_eq_false_iff_ne.2 hq
  have HN : Hid (q1 ≠ q2) := hq
  clear hq
  go_wp2
  go_ret
  exact ⟨false,rfl,⟨fun h => absurd h (by decide),fun h => absurd (HJ5.out h) HN.out⟩,HB.out⟩
 have hq' : q1 = q2 := Decidable.not_not.1 hq
 clear hq
 have HQ6 : Hid (PG -> PE -> s1 = s2 -> PL -> PD -> Q) := HQ5.out hq'
 clear HQ5 HJ5
 subst hq'
 go_wp2_with fail
 refine (HG.out _ HB.out).mono ?_
 clear HG c0 c1 c2 c3 c4 c5 c6 c7 c8 c9 c10 d0 d1 d2 d3 d4 d5 d6 d7 d8 d9 d10
 rintro r v4 ⟨e,rfl,he,b⟩
 have HB1 : Hid (Below w.heap.size w v4) := HB.out.trans (b.mono HB.out.size)
 have HBW1 : Hid (Below (w.heap.size + 2) W v4) := HBW.out.trans (b.mono (by have h1 := HZ.out; have h2 := HBW.out.size; omega))
 have HE : Hid (e = true ↔ PG) := he
 clear HB HBW b he
 have HB : Hid (Below w.heap.size w v4) := HB1.out
 have HBW : Hid (Below (w.heap.size + 2) W v4) := HBW1.out
 clear HB1 HBW1
 cases e with
 | false =>
  have HN : Hid (¬ PG) := fun h => absurd (HE.out.2 h) (by decide)
  clear HE
  go_wp2
  go_ret
  exact ⟨false,rfl,⟨fun h => absurd h (by decide),fun h => absurd (HJ6.out h) HN.out⟩,HB.out⟩
 | true =>
 have HQ7 : Hid (PE -> s1 = s2 -> PL -> PD -> Q) := HQ6.out (HE.out.1 rfl)
 clear HE HQ6 HJ6
 obtain ⟨c0,c1,c2,c3,c4,c5,c6,c7,c8,c9,c10⟩ := X11.cell (w := v4) ((HBW.out.block w.heap.size (by omega)).trans HX.out)
 obtain ⟨d0,d1,d2,d3,d4,d5,d6,d7,d8,d9,d10⟩ := X11.cell (w := v4) ((HBW.out.block (w.heap.size + 1) (by omega)).trans HY.out)
 go_wp2_with fail
 refine (HE.out _ HB.out).mono ?_
 clear HE c0 c1 c2 c3 c4 c5 c6 c7 c8 c9 c10 d0 d1 d2 d3 d4 d5 d6 d7 d8 d9 d10
 rintro r v5 ⟨e,rfl,he,b⟩
 have HB1 : Hid (Below w.heap.size w v5) := HB.out.trans (b.mono HB.out.size)
 have HBW1 : Hid (Below (w.heap.size + 2) W v5) := HBW.out.trans (b.mono (by have h1 := HZ.out; have h2 := HBW.out.size; omega))
 have HE : Hid (e = true ↔ PE) := he
 clear HB HBW b he
 have HB : Hid (Below w.heap.size w v5) := HB1.out
 have HBW : Hid (Below (w.heap.size + 2) W v5) := HBW1.out
 clear HB1 HBW1
 cases e with
 | false =>
  have HN : Hid (¬ PE) := fun h => absurd (HE.out.2 h) (by decide)
  clear HE
  go_wp2
  go_ret
  exact ⟨false,rfl,⟨fun h => absurd h (by decide),fun h => absurd (HJ7.out h) HN.out⟩,HB.out⟩
 | true =>
 have HQ8 : Hid (s1 = s2 -> PL -> PD -> Q) := HQ7.out (HE.out.1 rfl)
 clear HE HQ7 HJ7
 obtain ⟨c0,c1,c2,c3,c4,c5,c6,c7,c8,c9,c10⟩ := X11.cell (w := v5) ((HBW.out.block w.heap.size (by omega)).trans HX.out)
 obtain ⟨d0,d1,d2,d3,d4,d5,d6,d7,d8,d9,d10⟩ := X11.cell (w := v5) ((HBW.out.block (w.heap.size + 1) (by omega)).trans HY.out)
 by_cases hs : ¬ s1 = s2
 ·have hb : (s1 == s2) = false := beq_eq_false_iff_ne.2 hs
  have HN : Hid (s1 ≠ s2) := hs
  clear hs
  go_wp2
  go_ret
  exact ⟨false,rfl,⟨fun h => absurd h (by decide),fun h => absurd (HJ8.out h) HN.out⟩,HB.out⟩
 have hs' : s1 = s2 := Decidable.not_not.1 hs
 clear hs
 have HQ9 : Hid (PL -> PD -> Q) := HQ8.out hs'
 clear HQ8 HJ8
 subst hs'
 go_wp2_with fail
 refine (HL.out _ HB.out).mono ?_
 clear HL c0 c1 c2 c3 c4 c5 c6 c7 c8 c9 c10 d0 d1 d2 d3 d4 d5 d6 d7 d8 d9 d10
 rintro r v6 ⟨e,rfl,he,b⟩
 have HB1 : Hid (Below w.heap.size w v6) := HB.out.trans (b.mono HB.out.size)
 have HBW1 : Hid (Below (w.heap.size + 2) W v6) := HBW.out.trans (b.mono (by have h1 := HZ.out; have h2 := HBW.out.size; omega))
 have HE : Hid (e = true ↔ PL) := he
 clear HB HBW b he
 have HB : Hid (Below w.heap.size w v6) := HB1.out
 have HBW : Hid (Below (w.heap.size + 2) W v6) := HBW1.out
 clear HB1 HBW1
 cases e with
 | false =>
  have HN : Hid (¬ PL) := fun h => absurd (HE.out.2 h) (by decide)
  clear HE
  go_wp2
  go_ret
  exact ⟨false,rfl,⟨fun h => absurd h (by decide),fun h => absurd (HJ9.out h) HN.out⟩,HB.out⟩
 | true =>
 have HQ10 : Hid (PD -> Q) := HQ9.out (HE.out.1 rfl)
 clear HE HQ9 HJ9
 obtain ⟨c0,c1,c2,c3,c4,c5,c6,c7,c8,c9,c10⟩ := X11.cell (w := v6) ((HBW.out.block w.heap.size (by omega)).trans HX.out)
 obtain ⟨d0,d1,d2,d3,d4,d5,d6,d7,d8,d9,d10⟩ := X11.cell (w := v6) ((HBW.out.block (w.heap.size + 1) (by omega)).trans HY.out)
 go_wp2_with fail
 refine (HD.out _ HB.out).mono ?_
 clear HD c0 c1 c2 c3 c4 c5 c6 c7 c8 c9 c10 d0 d1 d2 d3 d4 d5 d6 d7 d8 d9 d10
 rintro r v7 ⟨e,rfl,he,b⟩
 have HB1 : Hid (Below w.heap.size w v7) := HB.out.trans (b.mono HB.out.size)
 have HBW1 : Hid (Below (w.heap.size + 2) W v7) := HBW.out.trans (b.mono (by have h1 := HZ.out; have h2 := HBW.out.size; omega))
 have HE : Hid (e = true ↔ PD) := he
 clear HB HBW b he
 have HB : Hid (Below w.heap.size w v7) := HB1.out
 have HBW : Hid (Below (w.heap.size + 2) W v7) := HBW1.out
 clear HB1 HBW1
 cases e with
 | false =>
  have HN : Hid (¬ PD) := fun h => absurd (HE.out.2 h) (by decide)
  clear HE
  go_wp2
  go_ret
  exact ⟨false,rfl,⟨fun h => absurd h (by decide),fun h => absurd (HJ10.out h) HN.out⟩,HB.out⟩
 | true =>
 have HQ11 : Hid (Q) := HQ10.out (HE.out.1 rfl)
 clear HE HQ10 HJ10
 obtain ⟨c0,c1,c2,c3,c4,c5,c6,c7,c8,c9,c10⟩ := X11.cell (w := v7) ((HBW.out.block w.heap.size (by omega)).trans HX.out)
 obtain ⟨d0,d1,d2,d3,d4,d5,d6,d7,d8,d9,d10⟩ := X11.cell (w := v7) ((HBW.out.block (w.heap.size + 1) (by omega)).trans HY.out)
 clear c0 c1 c2 c3 c4 c5 c6 c7 c8 c9 c10 d0 d1 d2 d3 d4 d5 d6 d7 d8 d9 d10
 go_wp2
 go_ret
 exact ⟨true,rfl,⟨fun _ => HQ11.out,fun _ => rfl⟩,HB.out⟩
theorem FunG.ok {w : World} {d : FunD} (h : FunG w d) : d.ok w := by
 obtain ⟨h1,h2,B,h3⟩ := h
 exact ⟨h1,h2.1,h3.LD,h3.capm.1,h3.capm.2⟩
theorem RowsOf.imp {α : Type} {w : World} {k : Nat} {cs : α -> List Value} {ok ok' : World -> α -> Prop} {o : Option Addr} {cap : Nat} {L : List α} (h : RowsOf w k cs ok o cap L) (hi : ∀ d,ok w d -> ok' w d) : RowsOf w k cs ok' o cap L := ⟨h.le,h.most,h.nil,fun d hd => hi d (h.all d hd),h.at'⟩
theorem ModG.ok {w : World} {N : Nat} {m : ModD} (h : ModG w N m) : m.ok w :=
 ⟨(h.types.rows (fun _ => rfl)).imp fun _ hd => ⟨hd.1.1,hd.2.1⟩,(h.imports.rows (fun _ => rfl)).imp fun _ hd => hd,(h.funcs.rows (fun _ => rfl)).imp fun _ hd => hd.ok,h.table,h.pages,h.most,(h.globals.rows (fun _ => rfl)).imp fun _ hd => hd,(h.exports.rows (fun _ => rfl)).imp fun _ hd => hd,h.start,(h.elems.rows (fun _ => rfl)).imp fun _ hd => ⟨hd.1,hd.2.1⟩,(h.data.rows (fun _ => rfl)).imp fun _ hd => hd⟩
theorem xrB {α β γ : Type} (f : α -> β) (g : α -> γ) : ∀ (L M : List α),L.map (fun d => (f d,g d)) = M.map (fun d => (f d,g d)) ↔ L.map f = M.map f /\ L.map g = M.map g
 | [],[] => by simp
 | [],_ :: _ => by simp
 | _ :: _,[] => by simp
 | a :: L,b :: M => by
  simp only [List.map_cons,List.cons.injEq,Prod.mk.injEq,xrB f g L M]
  constructor
  ·rintro ⟨⟨h1,h2⟩,h3,h4⟩
   exact ⟨⟨h1,h3⟩,h2,h4⟩
  ·rintro ⟨⟨h1,h3⟩,h2,h4⟩
   exact ⟨⟨h1,h2⟩,h3,h4⟩
theorem xkI {w w' : World} {d : FunD} (h : d.ok w) (b : Below w.heap.size w w') : d.ok w' := ⟨h.1,h.2.1.below b,h.2.2.1.below b,h.2.2.2⟩
theorem xlW (m n : ModD) (w : World) (hm : m.ok w) (hn : n.ok w) :
  Calls Tryz.prog 6 #[.agg (mcA m),.agg (mcA n)] w fun r w' => ∃ e : Bool,r = .returned (.bool e) /\ (e = true ↔ m.val = n.val) /\ Below w.heap.size w w' := by
 have big : ∀ k,k <= maxLen -> k <= 9223372036854775807 := fun k hk => by unfold maxLen at hk; omega
 refine (xjG m.oT m.oI m.oF m.oG m.oE m.oL m.oD n.oT n.oI n.oF n.oG n.oE n.oL n.oD m.types.length m.cT m.imports.length m.cI m.funcs.length m.cF m.globals.length m.cG m.exports.length m.cE m.elems.length m.cL m.data.length m.cD n.types.length n.cT n.imports.length n.cI n.funcs.length n.cF n.globals.length n.cG n.exports.length n.cE n.elems.length n.cL n.data.length n.cD m.table n.table m.pages n.pages m.most n.most m.start n.start
  (m.types.map SigD.val = n.types.map SigD.val) (m.imports.map NamD.val = n.imports.map NamD.val) (m.funcs.map (fun d => (d.t,d.cod)) = n.funcs.map (fun d => (d.t,d.cod))) (m.globals.map GloD.val = n.globals.map GloD.val) (m.exports.map NamD.val = n.exports.map NamD.val) (m.elems.map EleD.val = n.elems.map EleD.val) (m.data.map DatD.val = n.data.map DatD.val) w
  (fun w' b => by
   have gm := hm.below b
   have gn := hn.below b
   exact xpN SigD.val w' m.types n.types m.oT n.oT _ _ m.cT n.cT rfl rfl gm.types.le gn.types.le (big _ gm.types.most) (big _ gn.types.most) gm.types.at' gn.types.at' (fun d1 h1 d2 h2 w2 b2 => xpR w2 d1.i d1.r d2.i d2.r ((gm.types.all d1 h1).1.below b2) ((gm.types.all d1 h1).2.below b2) ((gn.types.all d2 h2).1.below b2) ((gn.types.all d2 h2).2.below b2)))
  (fun w' b => by
   have gm := hm.below b
   have gn := hn.below b
   exact yfZ w' m.imports n.imports m.oI n.oI _ _ m.cI n.cI rfl rfl gm.imports.le gn.imports.le (big _ gm.imports.most) (big _ gn.imports.most) gm.imports.at' gn.imports.at' )
  (fun w' b => by
   have gm := hm.below b
   have gn := hn.below b
   exact xpL (fun d => (d.t,d.cod)) w' m.funcs n.funcs m.oF n.oF _ _ m.cF n.cF rfl rfl gm.funcs.le gn.funcs.le (big _ gm.funcs.most) (big _ gn.funcs.most) gm.funcs.at' gn.funcs.at' (fun d1 h1 d2 h2 w2 b2 => xpP w2 d1 d2 (xkI (gm.funcs.all d1 h1) b2) (xkI (gn.funcs.all d2 h2) b2)))
  (fun w' b => by
   have gm := hm.below b
   have gn := hn.below b
   exact yfY w' m.globals n.globals m.oG n.oG _ _ m.cG n.cG rfl rfl gm.globals.le gn.globals.le (big _ gm.globals.most) (big _ gn.globals.most) gm.globals.at' gn.globals.at' )
  (fun w' b => by
   have gm := hm.below b
   have gn := hn.below b
   exact yfX w' m.exports n.exports m.oE n.oE _ _ m.cE n.cE rfl rfl gm.exports.le gn.exports.le (big _ gm.exports.most) (big _ gn.exports.most) gm.exports.at' gn.exports.at' )
  (fun w' b => by
   have gm := hm.below b
   have gn := hn.below b
   exact xpK EleD.val w' m.elems n.elems m.oL n.oL _ _ m.cL n.cL rfl rfl gm.elems.le gn.elems.le (big _ gm.elems.most) (big _ gn.elems.most) gm.elems.at' gn.elems.at' (fun d1 h1 d2 h2 w2 b2 => xpO w2 d1.a d2.a d1.f d2.f ((gm.elems.all d1 h1).2.below b2) ((gn.elems.all d2 h2).2.below b2)))
  (fun w' b => by
   have gm := hm.below b
   have gn := hn.below b
   exact yfW w' m.data n.data m.oD n.oD _ _ m.cD n.cD rfl rfl gm.data.le gn.data.le (big _ gm.data.most) (big _ gn.data.most) gm.data.at' gn.data.at' )).mono ?_
 rintro r w' ⟨e,rfl,he,b⟩
 refine ⟨e,rfl,?_,b⟩
 rw [he,xrB]
 unfold ModD.val
 rw [DrV.mk.injEq]
 constructor
 ·rintro ⟨a1,a2,⟨a3,a4⟩,a5,a6,a7,a8,a9,a10,a11,a12⟩
  exact ⟨a1,a2,a3,a5,a6,a7,a8,a9,a10,a11,a4,a12⟩
 ·rintro ⟨a1,a2,a3,a5,a6,a7,a8,a9,a10,a11,a4,a12⟩
  exact ⟨a1,a2,⟨a3,a4⟩,a5,a6,a7,a8,a9,a10,a11,a12⟩
end Go.Proofs.YtmmjgdaamkdncaaGreatDoor
