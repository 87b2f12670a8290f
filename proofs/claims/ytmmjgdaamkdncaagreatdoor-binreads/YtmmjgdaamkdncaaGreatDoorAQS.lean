import Derived.Test.YtmmjgdaamkdncaaGreatDoorAQG
import Derived.Test.YtmmjgdaamkdncaaGreatDoorABWhole
import Derived.Laws.StructEq
namespace Go.Proofs.YtmmjgdaamkdncaaGreatDoor
set_option maxHeartbeats 8000000
set_option maxRecDepth 1000000
set_option linter.unusedVariables false
open Go.RowKit
theorem xpX {xs ys : List Int} {k : Nat} (h1 : k < xs.length) (h2 : k < ys.length) (h : xs[k] ≠ ys[k]) : xs ≠ ys := fun e => h (by subst e; rfl)
theorem xpW {xs ys : List Int} {k : Nat} (h1 : k < xs.length) (h2 : k < ys.length) (h : xs.take k = ys.take k) (e : xs[k] = ys[k]) : xs.take (k + 1) = ys.take (k + 1) := by
 rw [List.take_succ_eq_append_getElem h1,List.take_succ_eq_append_getElem h2,h,e]
theorem yeD (w : World) (o1 o2 : Option Addr) (n1 k1 n2 k2 N1 N2 : Nat) (xs ys : List Int) (r1 : xs = [] \/ ∃ b f,o1 = some ⟨b,f,none⟩ /\ b < N1 /\ ∀ i (h : i < xs.length) r,r < 1 -> w.cell? ⟨b,f + i * 1 + r,none⟩ = ([Value.int .u8 xs[i]])[r]?) (r2 : ys = [] \/ ∃ b f,o2 = some ⟨b,f,none⟩ /\ b < N2 /\ ∀ i (h : i < ys.length) r,r < 1 -> w.cell? ⟨b,f + i * 1 + r,none⟩ = ([Value.int .u8 ys[i]])[r]?) (l1 : xs.length = n1) (l2 : ys.length = n2) (c1 : n1 <= k1) (c2 : n2 <= k2) (m1 : k1 <= 9223372036854775807) (m2 : k2 <= 9223372036854775807) :
  Calls Tryz.prog 18 #[.slice o1 n1 k1,.slice o2 n2 k2] w fun r w' => r = .returned (.bool (decide (xs = ys))) /\ w' = w := by
 by_cases hn : n1 = n2
 ·subst hn
  have HL1 : Hid (xs.length = n1) := l1
  have HL2 : Hid (ys.length = n1) := l2
  rcases r1 with rfl | ⟨b,f,rfl,_,h1⟩
  ·have h0 : n1 = 0 := by rw [<- l1]; rfl
   subst h0
   have hy : ys = [] := List.length_eq_zero_iff.1 l2
   subst hy
   clear l1 l2 r2
   go_enter Tryz.func18,Tryz.ntmps18
   go_wp2
   go_loop [14] (fun i => i = .int .i64 0) (fun _ => 0)
   case atStart => rfl
   case round =>
    subst hrel
    go_wp2
    go_ret
    exact ⟨rfl,rfl⟩
  rcases r2 with rfl | ⟨b2,f2,rfl,_,h2⟩
  ·have h0 : n1 = 0 := by rw [<- l2]; rfl
   subst h0
   have hy : xs = [] := List.length_eq_zero_iff.1 l1
   subst hy
   clear l1 l2 h1
   go_enter Tryz.func18,Tryz.ntmps18
   go_wp2
   go_loop [14] (fun i => i = .int .i64 0) (fun _ => 0)
   case atStart => rfl
   case round =>
    subst hrel
    go_wp2
    go_ret
    exact ⟨rfl,rfl⟩
  have H1 := kZz h1
  have H2 := kZz h2
  clear h1 h2 l1 l2
  go_enter Tryz.func18,Tryz.ntmps18
  go_wp2
  go_loop [14] (fun i => ∃ k : Nat,i = .int .i64 k /\ k <= n1 /\ Hid (xs.take k = ys.take k)) (fun i => n1 - (intOf i).toNat)
  case atStart => exact ⟨0,rfl,by omega,by unfold Hid; rfl⟩
  case round =>
   obtain ⟨k,rfl,hk,HT⟩ := hrel
   by_cases hlt : k < n1
   ·have hx : k < xs.length := by rw [HL1.out]; exact hlt
    have hy : k < ys.length := by rw [HL2.out]; exact hlt
    have e1 : w.cell? ⟨b,f + k,none⟩ = some (.int .u8 xs[k]) := by
     have := H1.out k hx 0 (by omega)
     rw [Nat.mul_one,Nat.add_zero] at this
     rw [this]
     rfl
    have e2 : w.cell? ⟨b2,f2 + k,none⟩ = some (.int .u8 ys[k]) := by
     have := H2.out k hy 0 (by omega)
     rw [Nat.mul_one,Nat.add_zero] at this
     rw [this]
     rfl
    have HN : Hid (xs[k] ≠ ys[k] -> xs ≠ ys) := xpX hx hy
    have HE : Hid (xs[k] = ys[k] -> xs.take (k + 1) = ys.take (k + 1)) := xpW hx hy HT.out
    generalize xs[k] = x at e1 HN HE
    generalize ys[k] = y at e2 HN HE
    have hki0 : (0 : Int) <= (k : Int) := by omega
    have hki1 : (k : Int) < (n1 : Int) := by omega
    clear HT hx hy
    by_cases hxy : x = y
    ·subst hxy
     have HE2 : Hid (xs.take (k + 1) = ys.take (k + 1)) := HE.out rfl
     clear HE HN
     go_wp2
     go_round
     case rel => exact ⟨k + 1,by go_num,by omega,HE2⟩
     case measure => simp [intOf]; omega
    ·have hb1 : (x == y) = false := beq_eq_false_iff_ne.2 hxy
     have hb2 : (x != y) = true := by rw [bne,hb1]; rfl
     have HD : Hid (decide (xs = ys) = false) := by unfold Hid; rw [decide_eq_false_iff_not]; exact HN.out hxy
     clear HE HN hxy
     go_wp2
     go_ret
     exact ⟨by rw [HD.out]; rfl,rfl⟩
   ·have HD : Hid (decide (xs = ys) = true) := by
     have h := HT.out
     rw [List.take_of_length_le (by rw [HL1.out]; omega),List.take_of_length_le (by rw [HL2.out]; omega)] at h
     unfold Hid
     rw [decide_eq_true_eq]
     exact h
    go_wp2
    go_ret
    exact ⟨by rw [HD.out]; rfl,rfl⟩
 ·have HD : Hid (decide (xs = ys) = false) := by
   unfold Hid
   rw [decide_eq_false_iff_not]
   intro e
   exact hn (by rw [<- l1,<- l2,e])
  have hb1 : ((n1 : Int) == (n2 : Int)) = false := by rw [beq_eq_false_iff_ne]; omega
  have hb2 : ((n1 : Int) != (n2 : Int)) = true := by rw [bne,hb1]; rfl
  clear r1 r2 l1 l2 hn
  go_enter Tryz.func18,Tryz.ntmps18
  go_wp2
  go_ret
  exact ⟨by rw [HD.out]; rfl,rfl⟩
theorem xqN (w : World) (c d : NumD) (hc : c.ok .u8 w) (hd : d.ok .u8 w) :
  Calls Tryz.prog 18 #[.slice c.o c.n c.cap,.slice d.o d.n d.cap] w fun r w' => r = .returned (.bool (decide (c.xs = d.xs))) /\ w' = w := by
 have m1 := hc.most
 have m2 := hd.most
 unfold maxLen at m1 m2
 exact yeD w c.o d.o c.n c.cap d.n d.cap _ _ c.xs d.xs (hc.at1 (Nat.le_refl _)) (hd.at1 (Nat.le_refl _)) hc.len hd.len hc.le hd.le (by omega) (by omega)
theorem yeC (w : World) (o1 o2 : Option Addr) (n1 k1 n2 k2 N1 N2 : Nat) (xs ys : List Int) (r1 : xs = [] \/ ∃ b f,o1 = some ⟨b,f,none⟩ /\ b < N1 /\ ∀ i (h : i < xs.length) r,r < 1 -> w.cell? ⟨b,f + i * 1 + r,none⟩ = ([Value.int .i64 xs[i]])[r]?) (r2 : ys = [] \/ ∃ b f,o2 = some ⟨b,f,none⟩ /\ b < N2 /\ ∀ i (h : i < ys.length) r,r < 1 -> w.cell? ⟨b,f + i * 1 + r,none⟩ = ([Value.int .i64 ys[i]])[r]?) (l1 : xs.length = n1) (l2 : ys.length = n2) (c1 : n1 <= k1) (c2 : n2 <= k2) (m1 : k1 <= 9223372036854775807) (m2 : k2 <= 9223372036854775807) :
  Calls Tryz.prog 21 #[.slice o1 n1 k1,.slice o2 n2 k2] w fun r w' => r = .returned (.bool (decide (xs = ys))) /\ w' = w := by
 by_cases hn : n1 = n2
 ·subst hn
  have HL1 : Hid (xs.length = n1) := l1
  have HL2 : Hid (ys.length = n1) := l2
  rcases r1 with rfl | ⟨b,f,rfl,_,h1⟩
  ·have h0 : n1 = 0 := by rw [<- l1]; rfl
   subst h0
   have hy : ys = [] := List.length_eq_zero_iff.1 l2
   subst hy
   clear l1 l2 r2
   go_enter Tryz.func21,Tryz.ntmps21
   go_wp2
   go_loop [14] (fun i => i = .int .i64 0) (fun _ => 0)
   case atStart => rfl
   case round =>
    subst hrel
    go_wp2
    go_ret
    exact ⟨rfl,rfl⟩
  rcases r2 with rfl | ⟨b2,f2,rfl,_,h2⟩
  ·have h0 : n1 = 0 := by rw [<- l2]; rfl
   subst h0
   have hy : xs = [] := List.length_eq_zero_iff.1 l1
   subst hy
   clear l1 l2 h1
   go_enter Tryz.func21,Tryz.ntmps21
   go_wp2
   go_loop [14] (fun i => i = .int .i64 0) (fun _ => 0)
   case atStart => rfl
   case round =>
    subst hrel
    go_wp2
    go_ret
    exact ⟨rfl,rfl⟩
  have H1 := kZz h1
  have H2 := kZz h2
  clear h1 h2 l1 l2
  go_enter Tryz.func21,Tryz.ntmps21
  go_wp2
  go_loop [14] (fun i => ∃ k : Nat,i = .int .i64 k /\ k <= n1 /\ Hid (xs.take k = ys.take k)) (fun i => n1 - (intOf i).toNat)
  case atStart => exact ⟨0,rfl,by omega,by unfold Hid; rfl⟩
  case round =>
   obtain ⟨k,rfl,hk,HT⟩ := hrel
   by_cases hlt : k < n1
   ·have hx : k < xs.length := by rw [HL1.out]; exact hlt
    have hy : k < ys.length := by rw [HL2.out]; exact hlt
    have e1 : w.cell? ⟨b,f + k,none⟩ = some (.int .i64 xs[k]) := by
     have := H1.out k hx 0 (by omega)
     rw [Nat.mul_one,Nat.add_zero] at this
     rw [this]
     rfl
    have e2 : w.cell? ⟨b2,f2 + k,none⟩ = some (.int .i64 ys[k]) := by
     have := H2.out k hy 0 (by omega)
     rw [Nat.mul_one,Nat.add_zero] at this
     rw [this]
     rfl
    have HN : Hid (xs[k] ≠ ys[k] -> xs ≠ ys) := xpX hx hy
    have HE : Hid (xs[k] = ys[k] -> xs.take (k + 1) = ys.take (k + 1)) := xpW hx hy HT.out
    generalize xs[k] = x at e1 HN HE
    generalize ys[k] = y at e2 HN HE
    have hki0 : (0 : Int) <= (k : Int) := by omega
    have hki1 : (k : Int) < (n1 : Int) := by omega
    clear HT hx hy
    by_cases hxy : x = y
    ·subst hxy
     have HE2 : Hid (xs.take (k + 1) = ys.take (k + 1)) := HE.out rfl
     clear HE HN
     go_wp2
     go_round
     case rel => exact ⟨k + 1,by go_num,by omega,HE2⟩
     case measure => simp [intOf]; omega
    ·have hb1 : (x == y) = false := beq_eq_false_iff_ne.2 hxy
     have hb2 : (x != y) = true := by rw [bne,hb1]; rfl
     have HD : Hid (decide (xs = ys) = false) := by unfold Hid; rw [decide_eq_false_iff_not]; exact HN.out hxy
     clear HE HN hxy
     go_wp2
     go_ret
     exact ⟨by rw [HD.out]; rfl,rfl⟩
   ·have HD : Hid (decide (xs = ys) = true) := by
     have h := HT.out
     rw [List.take_of_length_le (by rw [HL1.out]; omega),List.take_of_length_le (by rw [HL2.out]; omega)] at h
     unfold Hid
     rw [decide_eq_true_eq]
     exact h
    go_wp2
    go_ret
    exact ⟨by rw [HD.out]; rfl,rfl⟩
 ·have HD : Hid (decide (xs = ys) = false) := by
   unfold Hid
   rw [decide_eq_false_iff_not]
   intro e
   exact hn (by rw [<- l1,<- l2,e])
  have hb1 : ((n1 : Int) == (n2 : Int)) = false := by rw [beq_eq_false_iff_ne]; omega
  have hb2 : ((n1 : Int) != (n2 : Int)) = true := by rw [bne,hb1]; rfl
  clear r1 r2 l1 l2 hn
  go_enter Tryz.func21,Tryz.ntmps21
  go_wp2
  go_ret
  exact ⟨by rw [HD.out]; rfl,rfl⟩
theorem yeA (w : World) (c d : NumD) (hc : c.ok .i64 w) (hd : d.ok .i64 w) :
  Calls Tryz.prog 21 #[.slice c.o c.n c.cap,.slice d.o d.n d.cap] w fun r w' => r = .returned (.bool (decide (c.xs = d.xs))) /\ w' = w := by
 have m1 := hc.most
 have m2 := hd.most
 unfold maxLen at m1 m2
 exact yeC w c.o d.o c.n c.cap d.n d.cap _ _ c.xs d.xs (hc.at1 (Nat.le_refl _)) (hd.at1 (Nat.le_refl _)) hc.len hd.len hc.le hd.le (by omega) (by omega)
theorem yeB (w : World) (o1 o2 : Option Addr) (n1 k1 n2 k2 N1 N2 : Nat) (xs ys : List Int) (r1 : xs = [] \/ ∃ b f,o1 = some ⟨b,f,none⟩ /\ b < N1 /\ ∀ i (h : i < xs.length) r,r < 1 -> w.cell? ⟨b,f + i * 1 + r,none⟩ = ([Value.int .i64 xs[i]])[r]?) (r2 : ys = [] \/ ∃ b f,o2 = some ⟨b,f,none⟩ /\ b < N2 /\ ∀ i (h : i < ys.length) r,r < 1 -> w.cell? ⟨b,f + i * 1 + r,none⟩ = ([Value.int .i64 ys[i]])[r]?) (l1 : xs.length = n1) (l2 : ys.length = n2) (c1 : n1 <= k1) (c2 : n2 <= k2) (m1 : k1 <= 9223372036854775807) (m2 : k2 <= 9223372036854775807) :
  Calls Tryz.prog 71 #[.slice o1 n1 k1,.slice o2 n2 k2] w fun r w' => r = .returned (.bool (decide (xs = ys))) /\ w' = w := by
 by_cases hn : n1 = n2
 ·subst hn
  have HL1 : Hid (xs.length = n1) := l1
  have HL2 : Hid (ys.length = n1) := l2
  rcases r1 with rfl | ⟨b,f,rfl,_,h1⟩
  ·have h0 : n1 = 0 := by rw [<- l1]; rfl
   subst h0
   have hy : ys = [] := List.length_eq_zero_iff.1 l2
   subst hy
   clear l1 l2 r2
   go_enter Tryz.func71,Tryz.ntmps71
   go_wp2
   go_loop [14] (fun i => i = .int .i64 0) (fun _ => 0)
   case atStart => rfl
   case round =>
    subst hrel
    go_wp2
    go_ret
    exact ⟨rfl,rfl⟩
  rcases r2 with rfl | ⟨b2,f2,rfl,_,h2⟩
  ·have h0 : n1 = 0 := by rw [<- l2]; rfl
   subst h0
   have hy : xs = [] := List.length_eq_zero_iff.1 l1
   subst hy
   clear l1 l2 h1
   go_enter Tryz.func71,Tryz.ntmps71
   go_wp2
   go_loop [14] (fun i => i = .int .i64 0) (fun _ => 0)
   case atStart => rfl
   case round =>
    subst hrel
    go_wp2
    go_ret
    exact ⟨rfl,rfl⟩
  have H1 := kZz h1
  have H2 := kZz h2
  clear h1 h2 l1 l2
  go_enter Tryz.func71,Tryz.ntmps71
  go_wp2
  go_loop [14] (fun i => ∃ k : Nat,i = .int .i64 k /\ k <= n1 /\ Hid (xs.take k = ys.take k)) (fun i => n1 - (intOf i).toNat)
  case atStart => exact ⟨0,rfl,by omega,by unfold Hid; rfl⟩
  case round =>
   obtain ⟨k,rfl,hk,HT⟩ := hrel
   by_cases hlt : k < n1
   ·have hx : k < xs.length := by rw [HL1.out]; exact hlt
    have hy : k < ys.length := by rw [HL2.out]; exact hlt
    have e1 : w.cell? ⟨b,f + k,none⟩ = some (.int .i64 xs[k]) := by
     have := H1.out k hx 0 (by omega)
     rw [Nat.mul_one,Nat.add_zero] at this
     rw [this]
     rfl
    have e2 : w.cell? ⟨b2,f2 + k,none⟩ = some (.int .i64 ys[k]) := by
     have := H2.out k hy 0 (by omega)
     rw [Nat.mul_one,Nat.add_zero] at this
     rw [this]
     rfl
    have HN : Hid (xs[k] ≠ ys[k] -> xs ≠ ys) := xpX hx hy
    have HE : Hid (xs[k] = ys[k] -> xs.take (k + 1) = ys.take (k + 1)) := xpW hx hy HT.out
    generalize xs[k] = x at e1 HN HE
    generalize ys[k] = y at e2 HN HE
    have hki0 : (0 : Int) <= (k : Int) := by omega
    have hki1 : (k : Int) < (n1 : Int) := by omega
    clear HT hx hy
    by_cases hxy : x = y
    ·subst hxy
     have HE2 : Hid (xs.take (k + 1) = ys.take (k + 1)) := HE.out rfl
     clear HE HN
     go_wp2
     go_round
     case rel => exact ⟨k + 1,by go_num,by omega,HE2⟩
     case measure => simp [intOf]; omega
    ·have hb1 : (x == y) = false := beq_eq_false_iff_ne.2 hxy
     have hb2 : (x != y) = true := by rw [bne,hb1]; rfl
     have HD : Hid (decide (xs = ys) = false) := by unfold Hid; rw [decide_eq_false_iff_not]; exact HN.out hxy
     clear HE HN hxy
     go_wp2
     go_ret
     exact ⟨by rw [HD.out]; rfl,rfl⟩
   ·have HD : Hid (decide (xs = ys) = true) := by
     have h := HT.out
     rw [List.take_of_length_le (by rw [HL1.out]; omega),List.take_of_length_le (by rw [HL2.out]; omega)] at h
     unfold Hid
     rw [decide_eq_true_eq]
     exact h
    go_wp2
    go_ret
    exact ⟨by rw [HD.out]; rfl,rfl⟩
 ·have HD : Hid (decide (xs = ys) = false) := by
   unfold Hid
   rw [decide_eq_false_iff_not]
   intro e
   exact hn (by rw [<- l1,<- l2,e])
  have hb1 : ((n1 : Int) == (n2 : Int)) = false := by rw [beq_eq_false_iff_ne]; omega
  have hb2 : ((n1 : Int) != (n2 : Int)) = true := by rw [bne,hb1]; rfl
  clear r1 r2 l1 l2 hn
  go_enter Tryz.func71,Tryz.ntmps71
  go_wp2
  go_ret
  exact ⟨by rw [HD.out]; rfl,rfl⟩
theorem xeS {α β : Type} (f : α -> β) {xs ys : List α} {k : Nat} (h1 : k < xs.length) (h2 : k < ys.length) (h : f xs[k] ≠ f ys[k]) : xs.map f ≠ ys.map f := fun e => h (by
 have q1 : (xs.map f)[k]? = some (f xs[k]) := by rw [List.getElem?_map,List.getElem?_eq_getElem h1]; rfl
 have q2 : (ys.map f)[k]? = some (f ys[k]) := by rw [List.getElem?_map,List.getElem?_eq_getElem h2]; rfl
 rw [e,q2] at q1
 exact (Option.some.inj q1).symm)
theorem xeR {α β : Type} (f : α -> β) {xs ys : List α} {k : Nat} (h1 : k < xs.length) (h2 : k < ys.length) (h : (xs.take k).map f = (ys.take k).map f) (e : f xs[k] = f ys[k]) : (xs.take (k + 1)).map f = (ys.take (k + 1)).map f := by
 rw [List.take_succ_eq_append_getElem h1,List.take_succ_eq_append_getElem h2,List.map_append,List.map_append,h,List.map_cons,List.map_cons,e]
theorem xhD {s t : ByteArray} (h : s.toList = t.toList) : s = t := by
 rw [ByteArray.toList_eq,ByteArray.toList_eq] at h
 obtain ⟨⟨x⟩⟩ := s
 obtain ⟨⟨y⟩⟩ := t
 simp at h
 rw [h]
theorem xmE {s t : ByteArray} (h : xaX s = xaX t) : s = t := by
 apply xhD
 rw [ByteArray.toList_eq,ByteArray.toList_eq]
 unfold xaX at h
 exact (List.map_inj_right (fun a b e => by have := UInt8.toNat_inj.1 (Int.ofNat_inj.1 e); exact this)).1 h
theorem xwD : Tryz.prog.eqGuardType Tryz.prog.depth 71 = false := by kernel_rfl
theorem yaM : Tryz.prog.stoodInHeld 71 = false := by kernel_rfl
theorem xuI : Tryz.prog.underlying 71 = some (.struct (Tryz.prog.fieldsOf 71)) := by kernel_rfl
theorem ydA (s1 : ByteArray) (n1 : Int) (s2 : ByteArray) (n2 : Int) (w : World) : (binOp .neq 71 (.agg #[.string s1,.int .i64 n1]) (.agg #[.string s2,.int .i64 n2])).run Tryz.prog w = .ok (.bool (!decide (s1.toList = s2.toList /\ n1 = n2))) w := by
 rw [run_neq_struct,run_equalIn_agg _ _ _ _ _ xuI yaM]
 simp only [Program.fieldsOf,Tryz.underlying71]
 simp [go_sem]
 repeat' split
 all_goals simp_all
theorem yfZ (w : World) (L M : List NamD) (o1 o2 : Option Addr) (n m k1 k2 : Nat) (l1 : L.length = n) (l2 : M.length = m) (c1 : n <= k1) (c2 : m <= k2) (m1 : k1 <= 9223372036854775807) (m2 : k2 <= 9223372036854775807)
  (r1 : L = [] \/ ∃ b f,o1 = some ⟨b,f,none⟩ /\ b < w.heap.size /\ ∀ i (h : i < L.length) r,r < 2 -> w.cell? ⟨b,f + i * 2 + r,none⟩ = (NamD.cells L[i])[r]?)
  (r2 : M = [] \/ ∃ b f,o2 = some ⟨b,f,none⟩ /\ b < w.heap.size /\ ∀ i (h : i < M.length) r,r < 2 -> w.cell? ⟨b,f + i * 2 + r,none⟩ = (NamD.cells M[i])[r]?) :
  Calls Tryz.prog 24 #[.slice o1 n k1,.slice o2 m k2] w fun r w' => ∃ e : Bool,r = .returned (.bool e) /\ (e = true ↔ L.map NamD.val = M.map NamD.val) /\ Below w.heap.size w w' := by
 by_cases hn : n = m
 ·subst hn
  have HL1 : Hid (L.length = n) := l1
  have HL2 : Hid (M.length = n) := l2
  by_cases hz : n = 0
  ·subst hz
   have hx : L = [] := List.length_eq_zero_iff.1 l1
   have hy : M = [] := List.length_eq_zero_iff.1 l2
   subst hx
   subst hy
   clear l1 l2 r1 r2
   go_enter Tryz.func24,Tryz.ntmps24
   go_wp2
   go_loopw [14] (fun i wr => i = .int .i64 0 /\ wr = w) (fun _ _ => 0)
   case atStart => exact ⟨rfl,rfl⟩
   case round =>
    obtain ⟨rfl,rfl⟩ := hrel
    go_wp2
    go_ret
    exact ⟨true,rfl,by simp,Below.refl _ _⟩
  obtain ⟨b,f,rfl,hb,h1⟩ := r1.resolve_left (fun e => hz (by rw [<- l1,e]; rfl))
  obtain ⟨b2,f2,rfl,hb2,h2⟩ := r2.resolve_left (fun e => hz (by rw [<- l2,e]; rfl))
  have H1 := kZz h1
  have H2 := kZz h2
  clear h1 h2 l1 l2 hz r1 r2
  go_enter Tryz.func24,Tryz.ntmps24
  go_wp2
  go_loopw [14] (fun i wr => ∃ k : Nat,i = .int .i64 k /\ k <= n /\ Hid ((L.take k).map NamD.val = (M.take k).map NamD.val) /\ Hid (Below w.heap.size w wr)) (fun i _ => n - (intOf i).toNat)
  case atStart => exact ⟨0,rfl,by omega,rfl,Below.refl _ _⟩
  case round =>
   obtain ⟨k,rfl,hk,HT,HB⟩ := hrel
   have hws := HB.out.size
   by_cases hlt : k < n
   ·have hx : k < L.length := by rw [HL1.out]; exact hlt
    have hy : k < M.length := by rw [HL2.out]; exact hlt
    have HN : Hid ((L[k]).val ≠ (M[k]).val -> L.map NamD.val ≠ M.map NamD.val) := xeS NamD.val hx hy
    have HE : Hid ((L[k]).val = (M[k]).val -> (L.take (k + 1)).map NamD.val = (M.take (k + 1)).map NamD.val) := xeR NamD.val hx hy HT.out
    have HC1 : Hid (∀ r,r < 2 -> wr.cell? ⟨b,f + k * 2 + r,none⟩ = (NamD.cells L[k])[r]?) := fun r hr => by
     rw [HB.out.cell (p := ⟨b,f + k * 2 + r,none⟩) hb]
     exact H1.out k hx r hr
    have HC2 : Hid (∀ r,r < 2 -> wr.cell? ⟨b2,f2 + k * 2 + r,none⟩ = (NamD.cells M[k])[r]?) := fun r hr => by
     rw [HB.out.cell (p := ⟨b2,f2 + k * 2 + r,none⟩) hb2]
     exact H2.out k hy r hr
    generalize L[k] = d1 at HN HE HC1
    generalize M[k] = d2 at HN HE HC2
    obtain ⟨s1,n1⟩ := d1
    obtain ⟨s2,n2⟩ := d2
    have e0 : wr.cell? ⟨b,f + k * 2,none⟩ = some (.string s1) := HC1.out 0 (by omega)
    have q0 : wr.cell? ⟨b2,f2 + k * 2,none⟩ = some (.string s2) := HC2.out 0 (by omega)
    have e1 : wr.cell? ⟨b,f + k * 2 + 1,none⟩ = some (.int .i64 n1) := HC1.out 1 (by omega)
    have q1 : wr.cell? ⟨b2,f2 + k * 2 + 1,none⟩ = some (.int .i64 n2) := HC2.out 1 (by omega)
    have hne : b ≠ wr.heap.size := by omega
    have hne2 : b2 ≠ wr.heap.size := by omega
    have hki0 : (0 : Int) <= (k : Int) := by omega
    have hki1 : (k : Int) < (n : Int) := by omega
    have bA : Below wr.heap.size wr (wr.alloc (.cells #[.string s1,.int .i64 n1] 71)).drew := (((Below.refl wr.heap.size wr).alloc (Nat.le_refl _) _).drew)
    have y0 := (bA.cell (p := ⟨b2,f2 + k * 2,none⟩) (show b2 < wr.heap.size by omega)).trans q0
    have y1 := (bA.cell (p := ⟨b2,f2 + k * 2 + 1,none⟩) (show b2 < wr.heap.size by omega)).trans q1
    have HBA : Hid (Below w.heap.size w (wr.alloc (.cells #[.string s1,.int .i64 n1] 71)).drew) := HB.out.trans (bA.mono hws)
    have hg : ∀ (x y : Operand) (xs ys : Array Value) (w : World),(eqGuard .neq 71 x y (.agg xs) (.agg ys)).run Tryz.prog w = .ok () w := fun x y xs ys w => run_eqGuard_agg w .neq 71 x y xs ys xwD
    have ho := ydA s1 n1 s2 n2 (wr.alloc (.cells #[.string s1,.int .i64 n1] 71)).drew
    clear HT hx hy HC1 HC2 bA HB q0 q1
    by_cases hn0 : s1.toList = s2.toList
    rotate_left
    ·have hd : decide (s1.toList = s2.toList /\ n1 = n2) = false := by simp [hn0]
     rw [hd] at ho
     have HD : Hid (L.map NamD.val ≠ M.map NamD.val) := HN.out (fun e => hn0 (congrArg ByteArray.toList (xmE ((by simpa only [NamD.val,NamV.mk.injEq] using e : xaX s1 = xaX s2 /\ n1 = n2).1))))
     clear HN HE
     go_wp2
     go_region
     all_goals
      go_wp2
      go_ret
      exact ⟨false,rfl,by simpa using HD.out,HBA.out⟩
    have hs0 := xhD hn0
    subst hs0
    clear hn0
    by_cases hn1 : n1 = n2
    rotate_left
    ·have hd : decide (s1.toList = s1.toList /\ n1 = n2) = false := by simp [hn1]
     rw [hd] at ho
     have HD : Hid (L.map NamD.val ≠ M.map NamD.val) := HN.out (fun e => hn1 ((by simpa only [NamD.val,NamV.mk.injEq] using e : xaX s1 = xaX s1 /\ n1 = n2).2))
     clear HN HE
     go_wp2
     go_region
     all_goals
      go_wp2
      go_ret
      exact ⟨false,rfl,by simpa using HD.out,HBA.out⟩
    subst hn1
    have hd : decide (s1.toList = s1.toList /\ n1 = n1) = true := by simp
    rw [hd] at ho
    have HE2 : Hid ((L.take (k + 1)).map NamD.val = (M.take (k + 1)).map NamD.val) := HE.out rfl
    clear HN HE
    go_wp2
    go_region
    all_goals
     go_wp2
     go_roundw
     case rel => exact ⟨k + 1,by go_num,by omega,HE2,HBA⟩
     case measure => simp [intOf]; omega
   ·have HD : Hid (L.map NamD.val = M.map NamD.val) := by
     have h := HT.out
     rw [List.take_of_length_le (by rw [HL1.out]; omega),List.take_of_length_le (by rw [HL2.out]; omega)] at h
     exact h
    clear HT
    go_wp2
    go_ret
    exact ⟨true,rfl,by simpa using HD.out,HB.out⟩
 ·have HD : Hid (L.map NamD.val ≠ M.map NamD.val) := by
   intro e
   have := congrArg List.length e
   rw [List.length_map,List.length_map] at this
   omega
  have hb1 : ((n : Int) == (m : Int)) = false := by rw [beq_eq_false_iff_ne]; omega
  have hb2 : ((n : Int) != (m : Int)) = true := by rw [bne,hb1]; rfl
  clear r1 r2 l1 l2 hn
  go_enter Tryz.func24,Tryz.ntmps24
  go_wp2
  go_ret
  exact ⟨false,rfl,by simpa using HD.out,Below.refl _ _⟩
theorem xwB : Tryz.prog.eqGuardType Tryz.prog.depth 78 = false := by kernel_rfl
theorem yaK : Tryz.prog.stoodInHeld 78 = false := by kernel_rfl
theorem xuG : Tryz.prog.underlying 78 = some (.struct (Tryz.prog.fieldsOf 78)) := by kernel_rfl
theorem yeY (s1 : ByteArray) (n1 : Int) (s2 : ByteArray) (n2 : Int) (w : World) : (binOp .neq 78 (.agg #[.string s1,.int .i64 n1]) (.agg #[.string s2,.int .i64 n2])).run Tryz.prog w = .ok (.bool (!decide (s1.toList = s2.toList /\ n1 = n2))) w := by
 rw [run_neq_struct,run_equalIn_agg _ _ _ _ _ xuG yaK]
 simp only [Program.fieldsOf,Tryz.underlying78]
 simp [go_sem]
 repeat' split
 all_goals simp_all
theorem yfX (w : World) (L M : List NamD) (o1 o2 : Option Addr) (n m k1 k2 : Nat) (l1 : L.length = n) (l2 : M.length = m) (c1 : n <= k1) (c2 : m <= k2) (m1 : k1 <= 9223372036854775807) (m2 : k2 <= 9223372036854775807)
  (r1 : L = [] \/ ∃ b f,o1 = some ⟨b,f,none⟩ /\ b < w.heap.size /\ ∀ i (h : i < L.length) r,r < 2 -> w.cell? ⟨b,f + i * 2 + r,none⟩ = (NamD.cells L[i])[r]?)
  (r2 : M = [] \/ ∃ b f,o2 = some ⟨b,f,none⟩ /\ b < w.heap.size /\ ∀ i (h : i < M.length) r,r < 2 -> w.cell? ⟨b,f + i * 2 + r,none⟩ = (NamD.cells M[i])[r]?) :
  Calls Tryz.prog 27 #[.slice o1 n k1,.slice o2 m k2] w fun r w' => ∃ e : Bool,r = .returned (.bool e) /\ (e = true ↔ L.map NamD.val = M.map NamD.val) /\ Below w.heap.size w w' := by
 by_cases hn : n = m
 ·subst hn
  have HL1 : Hid (L.length = n) := l1
  have HL2 : Hid (M.length = n) := l2
  by_cases hz : n = 0
  ·subst hz
   have hx : L = [] := List.length_eq_zero_iff.1 l1
   have hy : M = [] := List.length_eq_zero_iff.1 l2
   subst hx
   subst hy
   clear l1 l2 r1 r2
   go_enter Tryz.func27,Tryz.ntmps27
   go_wp2
   go_loopw [14] (fun i wr => i = .int .i64 0 /\ wr = w) (fun _ _ => 0)
   case atStart => exact ⟨rfl,rfl⟩
   case round =>
    obtain ⟨rfl,rfl⟩ := hrel
    go_wp2
    go_ret
    exact ⟨true,rfl,by simp,Below.refl _ _⟩
  obtain ⟨b,f,rfl,hb,h1⟩ := r1.resolve_left (fun e => hz (by rw [<- l1,e]; rfl))
  obtain ⟨b2,f2,rfl,hb2,h2⟩ := r2.resolve_left (fun e => hz (by rw [<- l2,e]; rfl))
  have H1 := kZz h1
  have H2 := kZz h2
  clear h1 h2 l1 l2 hz r1 r2
  go_enter Tryz.func27,Tryz.ntmps27
  go_wp2
  go_loopw [14] (fun i wr => ∃ k : Nat,i = .int .i64 k /\ k <= n /\ Hid ((L.take k).map NamD.val = (M.take k).map NamD.val) /\ Hid (Below w.heap.size w wr)) (fun i _ => n - (intOf i).toNat)
  case atStart => exact ⟨0,rfl,by omega,rfl,Below.refl _ _⟩
  case round =>
   obtain ⟨k,rfl,hk,HT,HB⟩ := hrel
   have hws := HB.out.size
   by_cases hlt : k < n
   ·have hx : k < L.length := by rw [HL1.out]; exact hlt
    have hy : k < M.length := by rw [HL2.out]; exact hlt
    have HN : Hid ((L[k]).val ≠ (M[k]).val -> L.map NamD.val ≠ M.map NamD.val) := xeS NamD.val hx hy
    have HE : Hid ((L[k]).val = (M[k]).val -> (L.take (k + 1)).map NamD.val = (M.take (k + 1)).map NamD.val) := xeR NamD.val hx hy HT.out
    have HC1 : Hid (∀ r,r < 2 -> wr.cell? ⟨b,f + k * 2 + r,none⟩ = (NamD.cells L[k])[r]?) := fun r hr => by
     rw [HB.out.cell (p := ⟨b,f + k * 2 + r,none⟩) hb]
     exact H1.out k hx r hr
    have HC2 : Hid (∀ r,r < 2 -> wr.cell? ⟨b2,f2 + k * 2 + r,none⟩ = (NamD.cells M[k])[r]?) := fun r hr => by
     rw [HB.out.cell (p := ⟨b2,f2 + k * 2 + r,none⟩) hb2]
     exact H2.out k hy r hr
    generalize L[k] = d1 at HN HE HC1
    generalize M[k] = d2 at HN HE HC2
    obtain ⟨s1,n1⟩ := d1
    obtain ⟨s2,n2⟩ := d2
    have e0 : wr.cell? ⟨b,f + k * 2,none⟩ = some (.string s1) := HC1.out 0 (by omega)
    have q0 : wr.cell? ⟨b2,f2 + k * 2,none⟩ = some (.string s2) := HC2.out 0 (by omega)
    have e1 : wr.cell? ⟨b,f + k * 2 + 1,none⟩ = some (.int .i64 n1) := HC1.out 1 (by omega)
    have q1 : wr.cell? ⟨b2,f2 + k * 2 + 1,none⟩ = some (.int .i64 n2) := HC2.out 1 (by omega)
    have hne : b ≠ wr.heap.size := by omega
    have hne2 : b2 ≠ wr.heap.size := by omega
    have hki0 : (0 : Int) <= (k : Int) := by omega
    have hki1 : (k : Int) < (n : Int) := by omega
    have bA : Below wr.heap.size wr (wr.alloc (.cells #[.string s1,.int .i64 n1] 78)).drew := (((Below.refl wr.heap.size wr).alloc (Nat.le_refl _) _).drew)
    have y0 := (bA.cell (p := ⟨b2,f2 + k * 2,none⟩) (show b2 < wr.heap.size by omega)).trans q0
    have y1 := (bA.cell (p := ⟨b2,f2 + k * 2 + 1,none⟩) (show b2 < wr.heap.size by omega)).trans q1
    have HBA : Hid (Below w.heap.size w (wr.alloc (.cells #[.string s1,.int .i64 n1] 78)).drew) := HB.out.trans (bA.mono hws)
    have hg : ∀ (x y : Operand) (xs ys : Array Value) (w : World),(eqGuard .neq 78 x y (.agg xs) (.agg ys)).run Tryz.prog w = .ok () w := fun x y xs ys w => run_eqGuard_agg w .neq 78 x y xs ys xwB
    have ho := yeY s1 n1 s2 n2 (wr.alloc (.cells #[.string s1,.int .i64 n1] 78)).drew
    clear HT hx hy HC1 HC2 bA HB q0 q1
    by_cases hn0 : s1.toList = s2.toList
    rotate_left
    ·have hd : decide (s1.toList = s2.toList /\ n1 = n2) = false := by simp [hn0]
     rw [hd] at ho
     have HD : Hid (L.map NamD.val ≠ M.map NamD.val) := HN.out (fun e => hn0 (congrArg ByteArray.toList (xmE ((by simpa only [NamD.val,NamV.mk.injEq] using e : xaX s1 = xaX s2 /\ n1 = n2).1))))
     clear HN HE
     go_wp2
     go_region
     all_goals
      go_wp2
      go_ret
      exact ⟨false,rfl,by simpa using HD.out,HBA.out⟩
    have hs0 := xhD hn0
    subst hs0
    clear hn0
    by_cases hn1 : n1 = n2
    rotate_left
    ·have hd : decide (s1.toList = s1.toList /\ n1 = n2) = false := by simp [hn1]
     rw [hd] at ho
     have HD : Hid (L.map NamD.val ≠ M.map NamD.val) := HN.out (fun e => hn1 ((by simpa only [NamD.val,NamV.mk.injEq] using e : xaX s1 = xaX s1 /\ n1 = n2).2))
     clear HN HE
     go_wp2
     go_region
     all_goals
      go_wp2
      go_ret
      exact ⟨false,rfl,by simpa using HD.out,HBA.out⟩
    subst hn1
    have hd : decide (s1.toList = s1.toList /\ n1 = n1) = true := by simp
    rw [hd] at ho
    have HE2 : Hid ((L.take (k + 1)).map NamD.val = (M.take (k + 1)).map NamD.val) := HE.out rfl
    clear HN HE
    go_wp2
    go_region
    all_goals
     go_wp2
     go_roundw
     case rel => exact ⟨k + 1,by go_num,by omega,HE2,HBA⟩
     case measure => simp [intOf]; omega
   ·have HD : Hid (L.map NamD.val = M.map NamD.val) := by
     have h := HT.out
     rw [List.take_of_length_le (by rw [HL1.out]; omega),List.take_of_length_le (by rw [HL2.out]; omega)] at h
     exact h
    clear HT
    go_wp2
    go_ret
    exact ⟨true,rfl,by simpa using HD.out,HB.out⟩
 ·have HD : Hid (L.map NamD.val ≠ M.map NamD.val) := by
   intro e
   have := congrArg List.length e
   rw [List.length_map,List.length_map] at this
   omega
  have hb1 : ((n : Int) == (m : Int)) = false := by rw [beq_eq_false_iff_ne]; omega
  have hb2 : ((n : Int) != (m : Int)) = true := by rw [bne,hb1]; rfl
  clear r1 r2 l1 l2 hn
  go_enter Tryz.func27,Tryz.ntmps27
  go_wp2
  go_ret
  exact ⟨false,rfl,by simpa using HD.out,Below.refl _ _⟩
theorem xwC : Tryz.prog.eqGuardType Tryz.prog.depth 75 = false := by kernel_rfl
theorem yaL : Tryz.prog.stoodInHeld 75 = false := by kernel_rfl
theorem xuH : Tryz.prog.underlying 75 = some (.struct (Tryz.prog.fieldsOf 75)) := by kernel_rfl
theorem yeZ (k1 : Int) (m1 : Bool) (n1 : Int) (k2 : Int) (m2 : Bool) (n2 : Int) (w : World) : (binOp .neq 75 (.agg #[.int .u8 k1,.bool m1,.int .i64 n1]) (.agg #[.int .u8 k2,.bool m2,.int .i64 n2])).run Tryz.prog w = .ok (.bool (!decide (k1 = k2 /\ m1 = m2 /\ n1 = n2))) w := by
 rw [run_neq_struct,run_equalIn_agg _ _ _ _ _ xuH yaL]
 simp only [Program.fieldsOf,Tryz.underlying75]
 simp [go_sem]
 repeat' split
 all_goals simp_all
theorem yfY (w : World) (L M : List GloD) (o1 o2 : Option Addr) (n m k1 k2 : Nat) (l1 : L.length = n) (l2 : M.length = m) (c1 : n <= k1) (c2 : m <= k2) (m1 : k1 <= 9223372036854775807) (m2 : k2 <= 9223372036854775807)
  (r1 : L = [] \/ ∃ b f,o1 = some ⟨b,f,none⟩ /\ b < w.heap.size /\ ∀ i (h : i < L.length) r,r < 3 -> w.cell? ⟨b,f + i * 3 + r,none⟩ = (GloD.cells L[i])[r]?)
  (r2 : M = [] \/ ∃ b f,o2 = some ⟨b,f,none⟩ /\ b < w.heap.size /\ ∀ i (h : i < M.length) r,r < 3 -> w.cell? ⟨b,f + i * 3 + r,none⟩ = (GloD.cells M[i])[r]?) :
  Calls Tryz.prog 26 #[.slice o1 n k1,.slice o2 m k2] w fun r w' => ∃ e : Bool,r = .returned (.bool e) /\ (e = true ↔ L.map GloD.val = M.map GloD.val) /\ Below w.heap.size w w' := by
 by_cases hn : n = m
 ·subst hn
  have HL1 : Hid (L.length = n) := l1
  have HL2 : Hid (M.length = n) := l2
  by_cases hz : n = 0
  ·subst hz
   have hx : L = [] := List.length_eq_zero_iff.1 l1
   have hy : M = [] := List.length_eq_zero_iff.1 l2
   subst hx
   subst hy
   clear l1 l2 r1 r2
   go_enter Tryz.func26,Tryz.ntmps26
   go_wp2
   go_loopw [14] (fun i wr => i = .int .i64 0 /\ wr = w) (fun _ _ => 0)
   case atStart => exact ⟨rfl,rfl⟩
   case round =>
    obtain ⟨rfl,rfl⟩ := hrel
    go_wp2
    go_ret
    exact ⟨true,rfl,by simp,Below.refl _ _⟩
  obtain ⟨b,f,rfl,hb,h1⟩ := r1.resolve_left (fun e => hz (by rw [<- l1,e]; rfl))
  obtain ⟨b2,f2,rfl,hb2,h2⟩ := r2.resolve_left (fun e => hz (by rw [<- l2,e]; rfl))
  have H1 := kZz h1
  have H2 := kZz h2
  clear h1 h2 l1 l2 hz r1 r2
  go_enter Tryz.func26,Tryz.ntmps26
  go_wp2
  go_loopw [14] (fun i wr => ∃ k : Nat,i = .int .i64 k /\ k <= n /\ Hid ((L.take k).map GloD.val = (M.take k).map GloD.val) /\ Hid (Below w.heap.size w wr)) (fun i _ => n - (intOf i).toNat)
  case atStart => exact ⟨0,rfl,by omega,rfl,Below.refl _ _⟩
  case round =>
   obtain ⟨k,rfl,hk,HT,HB⟩ := hrel
   have hws := HB.out.size
   by_cases hlt : k < n
   ·have hx : k < L.length := by rw [HL1.out]; exact hlt
    have hy : k < M.length := by rw [HL2.out]; exact hlt
    have HN : Hid ((L[k]).val ≠ (M[k]).val -> L.map GloD.val ≠ M.map GloD.val) := xeS GloD.val hx hy
    have HE : Hid ((L[k]).val = (M[k]).val -> (L.take (k + 1)).map GloD.val = (M.take (k + 1)).map GloD.val) := xeR GloD.val hx hy HT.out
    have HC1 : Hid (∀ r,r < 3 -> wr.cell? ⟨b,f + k * 3 + r,none⟩ = (GloD.cells L[k])[r]?) := fun r hr => by
     rw [HB.out.cell (p := ⟨b,f + k * 3 + r,none⟩) hb]
     exact H1.out k hx r hr
    have HC2 : Hid (∀ r,r < 3 -> wr.cell? ⟨b2,f2 + k * 3 + r,none⟩ = (GloD.cells M[k])[r]?) := fun r hr => by
     rw [HB.out.cell (p := ⟨b2,f2 + k * 3 + r,none⟩) hb2]
     exact H2.out k hy r hr
    generalize L[k] = d1 at HN HE HC1
    generalize M[k] = d2 at HN HE HC2
    obtain ⟨k1,m1,n1⟩ := d1
    obtain ⟨k2,m2,n2⟩ := d2
    have e0 : wr.cell? ⟨b,f + k * 3,none⟩ = some (.int .u8 k1) := HC1.out 0 (by omega)
    have q0 : wr.cell? ⟨b2,f2 + k * 3,none⟩ = some (.int .u8 k2) := HC2.out 0 (by omega)
    have e1 : wr.cell? ⟨b,f + k * 3 + 1,none⟩ = some (.bool m1) := HC1.out 1 (by omega)
    have q1 : wr.cell? ⟨b2,f2 + k * 3 + 1,none⟩ = some (.bool m2) := HC2.out 1 (by omega)
    have e2 : wr.cell? ⟨b,f + k * 3 + 2,none⟩ = some (.int .i64 n1) := HC1.out 2 (by omega)
    have q2 : wr.cell? ⟨b2,f2 + k * 3 + 2,none⟩ = some (.int .i64 n2) := HC2.out 2 (by omega)
    have hne : b ≠ wr.heap.size := by omega
    have hne2 : b2 ≠ wr.heap.size := by omega
    have hki0 : (0 : Int) <= (k : Int) := by omega
    have hki1 : (k : Int) < (n : Int) := by omega
    have bA : Below wr.heap.size wr (wr.alloc (.cells #[.int .u8 k1,.bool m1,.int .i64 n1] 75)).drew := (((Below.refl wr.heap.size wr).alloc (Nat.le_refl _) _).drew)
    have y0 := (bA.cell (p := ⟨b2,f2 + k * 3,none⟩) (show b2 < wr.heap.size by omega)).trans q0
    have y1 := (bA.cell (p := ⟨b2,f2 + k * 3 + 1,none⟩) (show b2 < wr.heap.size by omega)).trans q1
    have y2 := (bA.cell (p := ⟨b2,f2 + k * 3 + 2,none⟩) (show b2 < wr.heap.size by omega)).trans q2
    have HBA : Hid (Below w.heap.size w (wr.alloc (.cells #[.int .u8 k1,.bool m1,.int .i64 n1] 75)).drew) := HB.out.trans (bA.mono hws)
    have hg : ∀ (x y : Operand) (xs ys : Array Value) (w : World),(eqGuard .neq 75 x y (.agg xs) (.agg ys)).run Tryz.prog w = .ok () w := fun x y xs ys w => run_eqGuard_agg w .neq 75 x y xs ys xwC
    have ho := yeZ k1 m1 n1 k2 m2 n2 (wr.alloc (.cells #[.int .u8 k1,.bool m1,.int .i64 n1] 75)).drew
    clear HT hx hy HC1 HC2 bA HB q0 q1 q2
    by_cases hn0 : k1 = k2
    rotate_left
    ·have hd : decide (k1 = k2 /\ m1 = m2 /\ n1 = n2) = false := by simp [hn0]
     rw [hd] at ho
     have HD : Hid (L.map GloD.val ≠ M.map GloD.val) := HN.out (fun e => hn0 ((by simpa only [GloD.val,GloV.mk.injEq] using e : k1 = k2 /\ m1 = m2 /\ n1 = n2).1))
     clear HN HE
     go_wp2
     go_region
     all_goals
      go_wp2
      go_ret
      exact ⟨false,rfl,by simpa using HD.out,HBA.out⟩
    subst hn0
    by_cases hn1 : m1 = m2
    rotate_left
    ·have hd : decide (k1 = k1 /\ m1 = m2 /\ n1 = n2) = false := by simp [hn1]
     rw [hd] at ho
     have HD : Hid (L.map GloD.val ≠ M.map GloD.val) := HN.out (fun e => hn1 ((by simpa only [GloD.val,GloV.mk.injEq] using e : k1 = k1 /\ m1 = m2 /\ n1 = n2).2.1))
     clear HN HE
     go_wp2
     go_region
     all_goals
      go_wp2
      go_ret
      exact ⟨false,rfl,by simpa using HD.out,HBA.out⟩
    subst hn1
    by_cases hn2 : n1 = n2
    rotate_left
    ·have hd : decide (k1 = k1 /\ m1 = m1 /\ n1 = n2) = false := by simp [hn2]
     rw [hd] at ho
     have HD : Hid (L.map GloD.val ≠ M.map GloD.val) := HN.out (fun e => hn2 ((by simpa only [GloD.val,GloV.mk.injEq] using e : k1 = k1 /\ m1 = m1 /\ n1 = n2).2.2))
     clear HN HE
     go_wp2
     go_region
     all_goals
      go_wp2
      go_ret
      exact ⟨false,rfl,by simpa using HD.out,HBA.out⟩
    subst hn2
    have hd : decide (k1 = k1 /\ m1 = m1 /\ n1 = n1) = true := by simp
    rw [hd] at ho
    have HE2 : Hid ((L.take (k + 1)).map GloD.val = (M.take (k + 1)).map GloD.val) := HE.out rfl
    clear HN HE
    go_wp2
    go_region
    all_goals
     go_wp2
     go_roundw
     case rel => exact ⟨k + 1,by go_num,by omega,HE2,HBA⟩
     case measure => simp [intOf]; omega
   ·have HD : Hid (L.map GloD.val = M.map GloD.val) := by
     have h := HT.out
     rw [List.take_of_length_le (by rw [HL1.out]; omega),List.take_of_length_le (by rw [HL2.out]; omega)] at h
     exact h
    clear HT
    go_wp2
    go_ret
    exact ⟨true,rfl,by simpa using HD.out,HB.out⟩
 ·have HD : Hid (L.map GloD.val ≠ M.map GloD.val) := by
   intro e
   have := congrArg List.length e
   rw [List.length_map,List.length_map] at this
   omega
  have hb1 : ((n : Int) == (m : Int)) = false := by rw [beq_eq_false_iff_ne]; omega
  have hb2 : ((n : Int) != (m : Int)) = true := by rw [bne,hb1]; rfl
  clear r1 r2 l1 l2 hn
  go_enter Tryz.func26,Tryz.ntmps26
  go_wp2
  go_ret
  exact ⟨false,rfl,by simpa using HD.out,Below.refl _ _⟩
theorem xwA : Tryz.prog.eqGuardType Tryz.prog.depth 82 = false := by kernel_rfl
theorem yaJ : Tryz.prog.stoodInHeld 82 = false := by kernel_rfl
theorem xuF : Tryz.prog.underlying 82 = some (.struct (Tryz.prog.fieldsOf 82)) := by kernel_rfl
theorem yeX (n1 : Int) (s1 : ByteArray) (n2 : Int) (s2 : ByteArray) (w : World) : (binOp .neq 82 (.agg #[.int .i64 n1,.string s1]) (.agg #[.int .i64 n2,.string s2])).run Tryz.prog w = .ok (.bool (!decide (n1 = n2 /\ s1.toList = s2.toList))) w := by
 rw [run_neq_struct,run_equalIn_agg _ _ _ _ _ xuF yaJ]
 simp only [Program.fieldsOf,Tryz.underlying82]
 simp [go_sem]
 repeat' split
 all_goals simp_all
theorem yfW (w : World) (L M : List DatD) (o1 o2 : Option Addr) (n m k1 k2 : Nat) (l1 : L.length = n) (l2 : M.length = m) (c1 : n <= k1) (c2 : m <= k2) (m1 : k1 <= 9223372036854775807) (m2 : k2 <= 9223372036854775807)
  (r1 : L = [] \/ ∃ b f,o1 = some ⟨b,f,none⟩ /\ b < w.heap.size /\ ∀ i (h : i < L.length) r,r < 2 -> w.cell? ⟨b,f + i * 2 + r,none⟩ = (DatD.cells L[i])[r]?)
  (r2 : M = [] \/ ∃ b f,o2 = some ⟨b,f,none⟩ /\ b < w.heap.size /\ ∀ i (h : i < M.length) r,r < 2 -> w.cell? ⟨b,f + i * 2 + r,none⟩ = (DatD.cells M[i])[r]?) :
  Calls Tryz.prog 29 #[.slice o1 n k1,.slice o2 m k2] w fun r w' => ∃ e : Bool,r = .returned (.bool e) /\ (e = true ↔ L.map DatD.val = M.map DatD.val) /\ Below w.heap.size w w' := by
 by_cases hn : n = m
 ·subst hn
  have HL1 : Hid (L.length = n) := l1
  have HL2 : Hid (M.length = n) := l2
  by_cases hz : n = 0
  ·subst hz
   have hx : L = [] := List.length_eq_zero_iff.1 l1
   have hy : M = [] := List.length_eq_zero_iff.1 l2
   subst hx
   subst hy
   clear l1 l2 r1 r2
   go_enter Tryz.func29,Tryz.ntmps29
   go_wp2
   go_loopw [14] (fun i wr => i = .int .i64 0 /\ wr = w) (fun _ _ => 0)
   case atStart => exact ⟨rfl,rfl⟩
   case round =>
    obtain ⟨rfl,rfl⟩ := hrel
    go_wp2
    go_ret
    exact ⟨true,rfl,by simp,Below.refl _ _⟩
  obtain ⟨b,f,rfl,hb,h1⟩ := r1.resolve_left (fun e => hz (by rw [<- l1,e]; rfl))
  obtain ⟨b2,f2,rfl,hb2,h2⟩ := r2.resolve_left (fun e => hz (by rw [<- l2,e]; rfl))
  have H1 := kZz h1
  have H2 := kZz h2
  clear h1 h2 l1 l2 hz r1 r2
  go_enter Tryz.func29,Tryz.ntmps29
  go_wp2
  go_loopw [14] (fun i wr => ∃ k : Nat,i = .int .i64 k /\ k <= n /\ Hid ((L.take k).map DatD.val = (M.take k).map DatD.val) /\ Hid (Below w.heap.size w wr)) (fun i _ => n - (intOf i).toNat)
  case atStart => exact ⟨0,rfl,by omega,rfl,Below.refl _ _⟩
  case round =>
   obtain ⟨k,rfl,hk,HT,HB⟩ := hrel
   have hws := HB.out.size
   by_cases hlt : k < n
   ·have hx : k < L.length := by rw [HL1.out]; exact hlt
    have hy : k < M.length := by rw [HL2.out]; exact hlt
    have HN : Hid ((L[k]).val ≠ (M[k]).val -> L.map DatD.val ≠ M.map DatD.val) := xeS DatD.val hx hy
    have HE : Hid ((L[k]).val = (M[k]).val -> (L.take (k + 1)).map DatD.val = (M.take (k + 1)).map DatD.val) := xeR DatD.val hx hy HT.out
    have HC1 : Hid (∀ r,r < 2 -> wr.cell? ⟨b,f + k * 2 + r,none⟩ = (DatD.cells L[k])[r]?) := fun r hr => by
     rw [HB.out.cell (p := ⟨b,f + k * 2 + r,none⟩) hb]
     exact H1.out k hx r hr
    have HC2 : Hid (∀ r,r < 2 -> wr.cell? ⟨b2,f2 + k * 2 + r,none⟩ = (DatD.cells M[k])[r]?) := fun r hr => by
     rw [HB.out.cell (p := ⟨b2,f2 + k * 2 + r,none⟩) hb2]
     exact H2.out k hy r hr
    generalize L[k] = d1 at HN HE HC1
    generalize M[k] = d2 at HN HE HC2
    obtain ⟨n1,s1⟩ := d1
    obtain ⟨n2,s2⟩ := d2
    have e0 : wr.cell? ⟨b,f + k * 2,none⟩ = some (.int .i64 n1) := HC1.out 0 (by omega)
    have q0 : wr.cell? ⟨b2,f2 + k * 2,none⟩ = some (.int .i64 n2) := HC2.out 0 (by omega)
    have e1 : wr.cell? ⟨b,f + k * 2 + 1,none⟩ = some (.string s1) := HC1.out 1 (by omega)
    have q1 : wr.cell? ⟨b2,f2 + k * 2 + 1,none⟩ = some (.string s2) := HC2.out 1 (by omega)
    have hne : b ≠ wr.heap.size := by omega
    have hne2 : b2 ≠ wr.heap.size := by omega
    have hki0 : (0 : Int) <= (k : Int) := by omega
    have hki1 : (k : Int) < (n : Int) := by omega
    have bA : Below wr.heap.size wr (wr.alloc (.cells #[.int .i64 n1,.string s1] 82)).drew := (((Below.refl wr.heap.size wr).alloc (Nat.le_refl _) _).drew)
    have y0 := (bA.cell (p := ⟨b2,f2 + k * 2,none⟩) (show b2 < wr.heap.size by omega)).trans q0
    have y1 := (bA.cell (p := ⟨b2,f2 + k * 2 + 1,none⟩) (show b2 < wr.heap.size by omega)).trans q1
    have HBA : Hid (Below w.heap.size w (wr.alloc (.cells #[.int .i64 n1,.string s1] 82)).drew) := HB.out.trans (bA.mono hws)
    have hg : ∀ (x y : Operand) (xs ys : Array Value) (w : World),(eqGuard .neq 82 x y (.agg xs) (.agg ys)).run Tryz.prog w = .ok () w := fun x y xs ys w => run_eqGuard_agg w .neq 82 x y xs ys xwA
    have ho := yeX n1 s1 n2 s2 (wr.alloc (.cells #[.int .i64 n1,.string s1] 82)).drew
    clear HT hx hy HC1 HC2 bA HB q0 q1
    by_cases hn0 : n1 = n2
    rotate_left
    ·have hd : decide (n1 = n2 /\ s1.toList = s2.toList) = false := by simp [hn0]
     rw [hd] at ho
     have HD : Hid (L.map DatD.val ≠ M.map DatD.val) := HN.out (fun e => hn0 ((by simpa only [DatD.val,DatV.mk.injEq] using e : n1 = n2 /\ xaX s1 = xaX s2).1))
     clear HN HE
     go_wp2
     go_region
     all_goals
      go_wp2
      go_ret
      exact ⟨false,rfl,by simpa using HD.out,HBA.out⟩
    subst hn0
    by_cases hn1 : s1.toList = s2.toList
    rotate_left
    ·have hd : decide (n1 = n1 /\ s1.toList = s2.toList) = false := by simp [hn1]
     rw [hd] at ho
     have HD : Hid (L.map DatD.val ≠ M.map DatD.val) := HN.out (fun e => hn1 (congrArg ByteArray.toList (xmE ((by simpa only [DatD.val,DatV.mk.injEq] using e : n1 = n1 /\ xaX s1 = xaX s2).2))))
     clear HN HE
     go_wp2
     go_region
     all_goals
      go_wp2
      go_ret
      exact ⟨false,rfl,by simpa using HD.out,HBA.out⟩
    have hs1 := xhD hn1
    subst hs1
    clear hn1
    have hd : decide (n1 = n1 /\ s1.toList = s1.toList) = true := by simp
    rw [hd] at ho
    have HE2 : Hid ((L.take (k + 1)).map DatD.val = (M.take (k + 1)).map DatD.val) := HE.out rfl
    clear HN HE
    go_wp2
    go_region
    all_goals
     go_wp2
     go_roundw
     case rel => exact ⟨k + 1,by go_num,by omega,HE2,HBA⟩
     case measure => simp [intOf]; omega
   ·have HD : Hid (L.map DatD.val = M.map DatD.val) := by
     have h := HT.out
     rw [List.take_of_length_le (by rw [HL1.out]; omega),List.take_of_length_le (by rw [HL2.out]; omega)] at h
     exact h
    clear HT
    go_wp2
    go_ret
    exact ⟨true,rfl,by simpa using HD.out,HB.out⟩
 ·have HD : Hid (L.map DatD.val ≠ M.map DatD.val) := by
   intro e
   have := congrArg List.length e
   rw [List.length_map,List.length_map] at this
   omega
  have hb1 : ((n : Int) == (m : Int)) = false := by rw [beq_eq_false_iff_ne]; omega
  have hb2 : ((n : Int) != (m : Int)) = true := by rw [bne,hb1]; rfl
  clear r1 r2 l1 l2 hn
  go_enter Tryz.func29,Tryz.ntmps29
  go_wp2
  go_ret
  exact ⟨false,rfl,by simpa using HD.out,Below.refl _ _⟩
theorem xpR (w : World) (i r i' r' : NumD) (h1 : i.ok .u8 w) (h2 : r.ok .u8 w) (h3 : i'.ok .u8 w) (h4 : r'.ok .u8 w) :
  Calls Tryz.prog 23 #[.agg #[.slice i.o i.n i.cap,.slice r.o r.n r.cap],.agg #[.slice i'.o i'.n i'.cap,.slice r'.o r'.n r'.cap]] w fun e w' => ∃ b : Bool,e = .returned (.bool b) /\ (b = true ↔ SigD.val ⟨i,r⟩ = SigD.val ⟨i',r'⟩) /\ Below w.heap.size w w' := by
 have bA : Below w.heap.size w ((w.alloc (.cells #[.slice i.o i.n i.cap,.slice r.o r.n r.cap] 67)).alloc (.cells #[.slice i'.o i'.n i'.cap,.slice r'.o r'.n r'.cap] 67)) := ((Below.refl _ _).alloc (Nat.le_refl _) _).alloc (by simp) _
 have HBA := kZz bA
 have HE1 := kZz (xqN _ i i' (h1.below bA) (h3.below bA))
 have HE2 := kZz (xqN _ r r' (h2.below bA) (h4.below bA))
 have HV : Hid (SigD.val ⟨i,r⟩ = SigD.val ⟨i',r'⟩ ↔ i.xs = i'.xs /\ r.xs = r'.xs) := by
  unfold Hid SigD.val
  rw [SigV.mk.injEq]
 clear h1 h2 h3 h4 bA
 by_cases hi : i.xs = i'.xs
 ·have HI : Hid (i.xs = i'.xs) := hi
  have HD1 : Hid (decide (i.xs = i'.xs) = true) := by unfold Hid; rw [decide_eq_true_eq]; exact hi
  rw [HD1.out] at HE1
  clear hi HD1
  obtain ⟨c,hc⟩ : ∃ c,c = decide (r.xs = r'.xs) := ⟨_,rfl⟩
  rw [<- hc] at HE2
  have HCC : Hid (c = decide (r.xs = r'.xs)) := hc
  clear hc
  go_enter Tryz.func23,Tryz.ntmps23
  go_wp2_with fail
  refine HE1.out.mono ?_
  rintro e w1 ⟨rfl,rfl⟩
  go_wp2_with fail
  refine HE2.out.mono ?_
  rintro e w1 ⟨rfl,rfl⟩
  go_wp2
  go_ret
  exact ⟨c,rfl,by rw [HV.out,HCC.out,decide_eq_true_eq]; exact ⟨fun h => ⟨HI.out,h⟩,fun h => h.2⟩,HBA.out⟩
 ·have HI : Hid (i.xs ≠ i'.xs) := hi
  have HD1 : Hid (decide (i.xs = i'.xs) = false) := by unfold Hid; rw [decide_eq_false_iff_not]; exact hi
  rw [HD1.out] at HE1
  clear hi HD1
  go_enter Tryz.func23,Tryz.ntmps23
  go_wp2_with fail
  refine HE1.out.mono ?_
  rintro e w1 ⟨rfl,rfl⟩
  go_wp2
  go_ret
  exact ⟨false,rfl,by rw [HV.out]; exact ⟨fun h => absurd h (by decide),fun h => absurd h.1 HI.out⟩,HBA.out⟩
theorem xpO (w : World) (a a' : Int) (f f' : NumD) (h1 : f.ok .i64 w) (h2 : f'.ok .i64 w) :
  Calls Tryz.prog 20 #[.agg #[.int .i64 a,.slice f.o f.n f.cap],.agg #[.int .i64 a',.slice f'.o f'.n f'.cap]] w fun e w' => ∃ b : Bool,e = .returned (.bool b) /\ (b = true ↔ EleD.val ⟨a,f⟩ = EleD.val ⟨a',f'⟩) /\ Below w.heap.size w w' := by
 have bA : Below w.heap.size w ((w.alloc (.cells #[.int .i64 a,.slice f.o f.n f.cap] 62)).alloc (.cells #[.int .i64 a',.slice f'.o f'.n f'.cap] 62)) := ((Below.refl _ _).alloc (Nat.le_refl _) _).alloc (by simp) _
 have HBA := kZz bA
 have HE2 := kZz (yeA _ f f' (h1.below bA) (h2.below bA))
 have HV : Hid (EleD.val ⟨a,f⟩ = EleD.val ⟨a',f'⟩ ↔ a = a' /\ f.xs = f'.xs) := by
  unfold Hid EleD.val
  rw [EleV.mk.injEq]
 clear h1 h2 bA
 by_cases hi : a = a'
 ·subst hi
  obtain ⟨c,hc⟩ : ∃ c,c = decide (f.xs = f'.xs) := ⟨_,rfl⟩
  rw [<- hc] at HE2
  have HCC : Hid (c = decide (f.xs = f'.xs)) := hc
  clear hc
  go_enter Tryz.func20,Tryz.ntmps20
  go_wp2_with fail
  refine HE2.out.mono ?_
  rintro e w1 ⟨rfl,rfl⟩
  go_wp2
  go_ret
  exact ⟨c,rfl,by rw [HV.out,HCC.out,decide_eq_true_eq]; exact ⟨fun h => ⟨trivial,h⟩,fun h => h.2⟩,HBA.out⟩
 ·have hb : (a == a') = false := beq_eq_false_iff_ne.2 hi
  have HI : Hid (a ≠ a') := hi
  clear hi
  go_enter Tryz.func20,Tryz.ntmps20
  go_wp2
  go_ret
  exact ⟨false,rfl,by rw [HV.out]; exact ⟨fun h => absurd h (by decide),fun h => absurd h.1 HI.out⟩,HBA.out⟩
end Go.Proofs.YtmmjgdaamkdncaaGreatDoor
