/-
 The document's own list of faults: the first one counts.
 The document's own looks at a module's parts, each of which adds its faults.
 What the walk of the document's own BinCheck leans on.
-/
import Derived.Test.YtmemiohompdibaaGreatDoorAQG
import Derived.Test.YtmemiohompdibaaGreatDoorANRow
import Derived.Lib.Builder
import Derived.Lib.AppendStr
import Derived.WalkKit
import Derived.Laws.Externs
import Derived.Test.YtmemiohompdibaaGreatDoorABList
import Derived.Test.YtmemiohompdibaaGreatDoorARNames
set_option maxHeartbeats 4000000
set_option maxRecDepth 1000000
namespace Go.Proofs.YtmemiohompdibaaGreatDoor
set_option linter.unusedVariables false
open Go.RowKit
def notF (t : TypeId) : Bool := t != 67 && t != 31
structure FS (w : World) (N P n : Nat) (e : Int) : Prop where
 out : ∃ (o : Option Addr) (cap : Nat) (es : List Int), w.heap[P]? = some (.cells #[.slice o n cap] 67 (0, 0)) ∧ w.ownsRow N 31 1 (.slice o n cap) n (es.map (Value.int .i64)) ∧ es.length = n ∧ (∀ x ∈ es, x ≠ 0) ∧ e = es.headD 0
theorem FS.lt {w : World} {N P n : Nat} {e : Int} (h : FS w N P n e) : P < w.heap.size := by
 obtain ⟨o, cap, es, h1, _⟩ := h.out
 exact some_lt h1
theorem FS.kp {w w' : World} {N P n : Nat} {e : Int} {S : TypeId → Bool} (h : FS w N P n e) (q : Kp S w w') (h1 : S 67 = true) (h2 : S 31 = true) : FS w' N P n e := by
 obtain ⟨o, cap, es, g1, g2, g3⟩ := h.out
 exact ⟨o, cap, es, by rw [q.blk P _ _ _ g1 h1, g1], own_kp g2 q h2, g3⟩
theorem FS.below {w w' : World} {N P n : Nat} {e : Int} (h : FS w N P n e) (b : Below w.heap.size w w') : FS w' N P n e := h.kp (Kp.below (fun _ => true) b) rfl rfl
theorem FS.new (w : World) (N : Nat) : FS (w.alloc (.cells #[.slice none 0 0] 67)) N w.heap.size 0 0 :=
 ⟨none, 0, [], new_block _ _, World.ownsRow_nil _ _ _ _, rfl, by simp, rfl⟩
def FOut (N P n k : Nat) (e : Int) (w : World) (r : Ending) (w' : World) : Prop := r = .returned (.tuple #[]) ∧ ∃ n', n' ≤ n + k ∧ FS w' N P n' e ∧ Below N w w' ∧ Kp notF w w'
theorem head_fst {es : List Int} (h : ∀ x ∈ es, x ≠ 0) (x : Int) : (es ++ [x]).headD 0 = fstE (es.headD 0) x := by
 cases es with
 | nil => simp [fstE]
 | cons a l =>
  have := h a (by simp)
  simp [fstE, this]
theorem fadd_no (N P n : Nat) (e x : Int) (w : World) (h : FS w N P n e) :
  Calls Tryz.prog 33 #[.pointer (some ⟨P, 0, none⟩), .bool false, .int .i64 x] w (FOut N P n 1 e w) := by
 have HH : Hid (FS w N P n e) := h
 clear h
 go_enter Tryz.func33, Tryz.ntmps33
 go_wp2
 go_end0
 exact ⟨rfl, n, by omega, HH.out, Below.refl _ _, Kp.refl _ _⟩
theorem Tryz.infoFlt : (Tryz.prog.info? 31).map (fun i => (i.zero, i.size, i.bytes)) = some (some (.int .i64 0), 1, 8) := by kernel_rfl
theorem fadd_yes (N P n : Nat) (e x : Int) (w : World) (h : FS w N P n e) (hx : x ≠ 0) (hNP : N ≤ P) (hn : n ≤ 8796093022208) :
  Calls Tryz.prog 33 #[.pointer (some ⟨P, 0, none⟩), .bool true, .int .i64 x] w (FOut N P n 1 (fstE e x) w) := by
 obtain ⟨o, cap, es, h1, h2, h3, h4, h5⟩ := h.out
 have hf : w.frozen? ⟨P, 0, none⟩ = false := by simp [World.frozen?, h1]
 have hc : w.cell? ⟨P, 0, none⟩ = some (.slice o n cap) := by simp [World.cell?, h1]
 obtain ⟨i0, hi, hz0, hz1, hz2⟩ := info_parts Tryz.infoFlt
 have HP : Hid (type_of% h1) := h1
 have HO : Hid (type_of% h2) := h2
 have HL : Hid (es.length = n) := h3
 have HE : Hid ((es ++ [x]).headD 0 = fstE e x) := by unfold Hid; rw [h5]; exact head_fst h4 x
 have HN : Hid (∀ y ∈ es ++ [x], y ≠ 0) := by
  intro y hy
  rcases List.mem_append.1 hy with hy | hy
  ·exact h4 y hy
  ·rw [List.mem_singleton] at hy; rw [hy]; exact hx
 have hPw := h.lt
 have bA : Below w.heap.size w (w.alloc (.cells #[.int .i64 x] 31)) := (Below.refl _ _).alloc (Nat.le_refl _) _
 have HBA : Hid (type_of% bA) := bA
 clear h h1 h2 h3 h4 h5 hx bA
 go_enter Tryz.func33, Tryz.ntmps33
 go_wp2_with (at_builtin; refine wpList_append_lies _ rfl _ _ 67 rfl N 31 i0 (.int .i64 0) 1 8 Tryz.underlying67 hi hz0 hz1 hz2 rfl (by omega) _ n (es.map (Value.int .i64)) rfl (HO.out.alloc _) ⟨w.heap.size, 0, none⟩ 1 1 [.int .i64 x] rfl rfl (World.news_of_block (cs := #[.int .i64 x]) (t := 31) (fr := (0, 0)) (heap_alloc_new w _)) (by simp [Value.oneCell']) (by omega) (by unfold maxLen; omega) (by omega) (by simp; omega) (w.heap.size + 1) (by simp) ?_)
 intro g capg w3 hown hgrow hat hlt3
 have q : Kp (fun t => t != 31) w w3 := (Kp.below _ HBA.out).trans (Kp.grown (HO.out.alloc _) hgrow _ (by decide))
 have HP3 : Hid (w3.heap[P]? = some (.cells #[.slice o n cap] 67 (0, 0))) := (q.blk P _ _ _ HP.out (by decide)).trans HP.out
 have hf3 : w3.frozen? ⟨P, 0, none⟩ = false := by simp [World.frozen?, HP3.out]
 have hc3 : w3.cell? ⟨P, 0, none⟩ = some (.slice o n cap) := by simp [World.cell?, HP3.out]
 have HQ : Hid (type_of% q) := q
 have HB3 : Hid (Below N w w3) := ((HBA.out.mono (by omega)).grown hgrow (by simp; omega) (fun j hj => (HO.out.lt j hj).1))
 have HO3 : Hid (w3.ownsRow N 31 1 (.slice (some ⟨g, 0, none⟩) (n + 1) capg) (n + 1) ((es ++ [x]).map (Value.int .i64))) := by
  unfold Hid
  rw [List.map_append]
  exact hown
 clear hown hgrow hat hlt3 q
 go_wp2
 go_end0
 have hch : Chg P w3 (w3.setCell ⟨P, 0, none⟩ (.slice (some ⟨g, 0, none⟩) (n + 1) capg)) := Chg.set _ _ _ _
 have qk : Kp (fun t => t != 67) w3 (w3.setCell ⟨P, 0, none⟩ (.slice (some ⟨g, 0, none⟩) (n + 1) capg)) := Kp.chg HP3.out hch _ (by decide)
 refine ⟨rfl, n + 1, Nat.le_refl _, ⟨some ⟨g, 0, none⟩, capg, es ++ [x], ?_, own_kp HO3.out qk (by decide), by rw [List.length_append, HL.out]; rfl, HN.out, HE.out.symm⟩, HB3.out.trans (hch.below hNP (Nat.le_trans (by omega) HB3.out.size)), (HQ.out.weak ?_).trans (qk.weak ?_)⟩
 ·have := HP3.out
  simp [World.setCell, Array.getElem?_modify, this]
 ·intro t ht
  unfold notF at ht
  rw [Bool.and_eq_true] at ht
  exact ht.2
 ·intro t ht
  unfold notF at ht
  rw [Bool.and_eq_true] at ht
  exact ht.1
theorem fadd (N P n : Nat) (e x : Int) (bad : Bool) (w : World) (h : FS w N P n e) (hx : bad = true → x ≠ 0) (hNP : N ≤ P) (hn : n ≤ 8796093022208) :
  Calls Tryz.prog 33 #[.pointer (some ⟨P, 0, none⟩), .bool bad, .int .i64 x] w (FOut N P n 1 (fstE e (okE (!bad) x)) w) := by
 cases bad with
 | true => exact fadd_yes N P n e x w h (hx rfl) hNP hn
 | false =>
  have e1 : fstE e (okE (!false) x) = e := by
   unfold okE fstE
   simp
   intro h
   exact h.symm
  rw [e1]
  exact fadd_no N P n e x w h
end Go.Proofs.YtmemiohompdibaaGreatDoor
namespace Go.Proofs.YtmemiohompdibaaGreatDoor
set_option linter.unusedVariables false
open Go.RowKit
theorem fstE_0 (e : Int) : fstE e 0 = e := by
 unfold fstE
 split
 ·rename_i h; exact h.symm
 ·rfl
theorem fsays (N P n : Nat) (e x : Int) (w : World) (h : FS w N P n e) (hNP : N ≤ P) (hn : n ≤ 8796093022208) :
  Calls Tryz.prog 52 #[.pointer (some ⟨P, 0, none⟩), .int .i64 x] w (FOut N P n 1 (fstE e x) w) := by
 have HH : Hid (FS w N P n e) := h
 clear h
 by_cases h0 : x = 0
 ·subst h0
  rw [fstE_0]
  go_enter Tryz.func52, Tryz.ntmps52
  go_wp2_with fail
  refine (fadd_no N P n e 0 _ HH.out).mono ?_
  rintro r w1 ⟨rfl, h1⟩
  have HR : Hid (type_of% h1) := h1
  clear h1
  go_wp2
  go_end0
  exact ⟨rfl, HR.out⟩
 ·have hb : (x == 0) = false := beq_eq_false_iff_ne.2 h0
  have hne : (x != 0) = true := by rw [bne, hb]; rfl
  have HX : Hid (x ≠ 0) := h0
  clear h0
  go_enter Tryz.func52, Tryz.ntmps52
  go_wp2_with fail
  refine (fadd_yes N P n e x _ HH.out HX.out hNP hn).mono ?_
  rintro r w1 ⟨rfl, h1⟩
  have HR : Hid (type_of% h1) := h1
  clear h1
  go_wp2
  go_end0
  exact ⟨rfl, HR.out⟩
theorem findex (N P n : Nat) (e x : Int) (w : World) (h : FS w N P n e) (hNP : N ≤ P) (hn : n ≤ 8796093022208) :
  Calls Tryz.prog 51 #[.pointer (some ⟨P, 0, none⟩), .int .i64 x] w (FOut N P n 1 (fstE e (chkNum x)) w) := by
 have HH : Hid (FS w N P n e) := h
 clear h
 by_cases h0 : x < 0
 ·have e1 : chkNum x = 1 := by
   unfold chkNum
   have : numOk x = false := by unfold numOk; rw [decide_eq_false (by omega)]; rfl
   rw [this]; rfl
  rw [e1]
  clear e1
  go_enter Tryz.func51, Tryz.ntmps51
  go_wp2_with fail
  refine (fadd_yes N P n e 1 _ HH.out (by decide) hNP hn).mono ?_
  rintro r w1 ⟨rfl, h1⟩
  have HR : Hid (type_of% h1) := h1
  clear h1
  go_wp2
  go_end0
  exact ⟨rfl, HR.out⟩
 ·by_cases h2 : 4294967295 < x
  ·have e1 : chkNum x = 1 := by
    unfold chkNum
    have : numOk x = false := by unfold numOk; rw [decide_eq_true (by omega), decide_eq_false (by omega)]; rfl
    rw [this]; rfl
   rw [e1]
   clear e1
   go_enter Tryz.func51, Tryz.ntmps51
   go_wp2_with fail
   refine (fadd_yes N P n e 1 _ HH.out (by decide) hNP hn).mono ?_
   rintro r w1 ⟨rfl, h1⟩
   have HR : Hid (type_of% h1) := h1
   clear h1
   go_wp2
   go_end0
   exact ⟨rfl, HR.out⟩
  ·have e1 : chkNum x = 0 := by
    unfold chkNum
    have : numOk x = true := by unfold numOk; rw [decide_eq_true (by omega), decide_eq_true (by omega)]; rfl
    rw [this]; rfl
   rw [e1, fstE_0]
   clear e1
   go_enter Tryz.func51, Tryz.ntmps51
   go_wp2_with fail
   refine (fadd_no N P n e 1 _ HH.out).mono ?_
   rintro r w1 ⟨rfl, h1⟩
   have HR : Hid (type_of% h1) := h1
   clear h1
   go_wp2
   go_end0
   exact ⟨rfl, HR.out⟩
theorem fat (N P n : Nat) (e x : Int) (w : World) (h : FS w N P n e) (hNP : N ≤ P) (hn : n ≤ 8796093022208) :
  Calls Tryz.prog 54 #[.pointer (some ⟨P, 0, none⟩), .int .i64 x] w (FOut N P n 1 (fstE e (okE (s32 x) 1)) w) := by
 have HH : Hid (FS w N P n e) := h
 clear h
 by_cases h0 : x < -2147483648
 ·have e1 : okE (s32 x) 1 = 1 := by
   skip
   have : s32 x = false := by unfold s32; rw [decide_eq_false (by omega)]; rfl
   rw [this]; rfl
  rw [e1]
  clear e1
  go_enter Tryz.func54, Tryz.ntmps54
  go_wp2_with fail
  refine (fadd_yes N P n e 1 _ HH.out (by decide) hNP hn).mono ?_
  rintro r w1 ⟨rfl, h1⟩
  have HR : Hid (type_of% h1) := h1
  clear h1
  go_wp2
  go_end0
  exact ⟨rfl, HR.out⟩
 ·by_cases h2 : 2147483647 < x
  ·have e1 : okE (s32 x) 1 = 1 := by
    skip
    have : s32 x = false := by unfold s32; rw [decide_eq_true (by omega), decide_eq_false (by omega)]; rfl
    rw [this]; rfl
   rw [e1]
   clear e1
   go_enter Tryz.func54, Tryz.ntmps54
   go_wp2_with fail
   refine (fadd_yes N P n e 1 _ HH.out (by decide) hNP hn).mono ?_
   rintro r w1 ⟨rfl, h1⟩
   have HR : Hid (type_of% h1) := h1
   clear h1
   go_wp2
   go_end0
   exact ⟨rfl, HR.out⟩
  ·have e1 : okE (s32 x) 1 = 0 := by
    skip
    have : s32 x = true := by unfold s32; rw [decide_eq_true (by omega), decide_eq_true (by omega)]; rfl
    rw [this]; rfl
   rw [e1, fstE_0]
   clear e1
   go_enter Tryz.func54, Tryz.ntmps54
   go_wp2_with fail
   refine (fadd_no N P n e 1 _ HH.out).mono ?_
   rintro r w1 ⟨rfl, h1⟩
   have HR : Hid (type_of% h1) := h1
   clear h1
   go_wp2
   go_end0
   exact ⟨rfl, HR.out⟩
theorem refName_chk (s : ByteArray) (w : World) : Calls Tryz.prog 82 #[.string s] w fun r w' => (∃ X : ByteArray, r = .returned (.tuple #[.string X, .int .i64 (chkName (nums s))])) ∧ Below w.heap.size w w' := by
 by_cases h : 16 < s.size
 ·have e : chkName (nums s) = 2 := by unfold chkName; rw [nums_length, if_pos h]
  rw [e]
  exact (refName_large s w (by omega)).mono fun r w' hh => ⟨⟨_, hh.1⟩, hh.2⟩
 ·have e : chkName (nums s) = okE (Lib.validD s.data.toList) 4 := by unfold chkName; rw [nums_length, if_neg h, okName_nums]
  rw [e]
  cases hv : Lib.validD s.data.toList with
  | false => exact (refName_bad s w (by omega) hv).mono fun r w' hh => ⟨⟨_, hh.1⟩, hh.2⟩
  | true => exact (refName_ok s _ w (by omega) hv rfl).mono fun r w' hh => ⟨⟨_, hh.1⟩, hh.2⟩
theorem fname (N P n : Nat) (e : Int) (s : ByteArray) (w : World) (h : FS w N P n e) (hNP : N ≤ P) (hn : n ≤ 8796093022208) :
  Calls Tryz.prog 50 #[.pointer (some ⟨P, 0, none⟩), .string s] w (FOut N P n 1 (fstE e (chkName (nums s))) w) := by
 have HH : Hid (FS w N P n e) := h
 have HPw : Hid (P < w.heap.size) := h.lt
 have HL : Hid (type_of% (refName_chk s w)) := refName_chk s w
 clear h
 generalize chkName (nums s) = x at HL
 go_enter Tryz.func50, Tryz.ntmps50
 go_wp2_with fail
 refine HL.out.mono ?_
 rintro r w1 ⟨⟨X, rfl⟩, b1⟩
 have HB1 : Hid (Below w.heap.size w w1) := b1
 have HH1 : Hid (FS w1 N P n e) := HH.out.below b1
 clear b1 HL HH
 go_wp2_with fail
 refine (fsays N P n e x _ HH1.out hNP hn).mono ?_
 rintro r w2 ⟨rfl, n', h1, h2, h3, h4⟩
 have HR : Hid (n' ≤ n + 1 ∧ FS w2 N P n' (fstE e x) ∧ Below N w w2 ∧ Kp notF w w2) := ⟨h1, h2, (HB1.out.mono (by have := HPw.out; omega)).trans h3, (Kp.below _ HB1.out).trans h4⟩
 clear h1 h2 h3 h4
 go_wp2
 go_end0
 exact ⟨rfl, n', HR.out⟩
theorem ffirst (w : World) (N n cap : Nat) (o : Option Addr) (es : List Int) (hl : es.length = n) (ho : w.ownsRow N 31 1 (.slice o n cap) n (es.map (Value.int .i64))) (hn : n ≤ 8796093022208) :
  Calls Tryz.prog 34 #[.slice o n cap] w fun r w' => r = .returned (.int .i64 (es.headD 0)) ∧ w' = w := by
 cases es with
 | nil =>
  have h0 : n = 0 := hl.symm
  subst h0
  go_enter Tryz.func34, Tryz.ntmps34
  go_wp2
  go_ret
  exact ⟨rfl, rfl⟩
 | cons x l =>
  have hpos : 0 < n := by rw [← hl]; simp
  have hx : ∃ b f, o = some ⟨b, f, none⟩ ∧ w.cell? ⟨b, f, none⟩ = some (.int .i64 x) := by
   have hr : LR w N 31 1 (fun y => [Value.int .i64 y]) (fun _ _ => True) o n cap (x :: l) := ⟨by rw [show (x :: l).flatMap (fun y => [Value.int .i64 y]) = (x :: l).map (Value.int .i64) from (List.map_eq_flatMap).symm]; exact ho, hl, fun _ _ => trivial⟩
   rcases (hr.rows (fun _ => rfl)).at' with h0 | ⟨b, f, h1, _, h3⟩
   ·cases h0
   ·have := h3 0 (by simp) 0 (by omega)
    exact ⟨b, f, h1, by simpa using this⟩
  have hcap : n ≤ cap := by
   have hr : LR w N 31 1 (fun y => [Value.int .i64 y]) (fun _ _ => True) o n cap (x :: l) := ⟨by rw [show (x :: l).flatMap (fun y => [Value.int .i64 y]) = (x :: l).map (Value.int .i64) from (List.map_eq_flatMap).symm]; exact ho, hl, fun _ _ => trivial⟩
   exact hr.capm.1
  obtain ⟨b, f, rfl, hcx⟩ := hx
  have hb0 : ((n : Int) == 0) = false := by rw [beq_eq_false_iff_ne]; omega
  have hki1 : (0 : Int) < (n : Int) := by omega
  clear ho hl
  go_enter Tryz.func34, Tryz.ntmps34
  go_wp2
  go_ret
  exact ⟨rfl, rfl⟩
theorem fkindsG (N P n : Nat) (e most : Int) (hm0 : 0 ≤ most) (hm1 : most ≤ 1000) (o : Option Addr) (k cap : Nat) (xs : List Int) (w : World) (h : FS w N P n e) (hNP : N ≤ P)
  (l1 : xs.length = k) (r1 : xs = [] ∨ ∃ b f, o = some ⟨b, f, none⟩ ∧ ∀ w', Below N w w' → Kp notF w w' → ∀ i (h : i < xs.length), w'.cell? ⟨b, f + i, none⟩ = some (.int .u8 xs[i])) (hk : k ≤ cap) (hcap : cap ≤ 9223372036854775807) (hn : n + k + 1 ≤ 8796093022208) :
  Calls Tryz.prog 49 #[.pointer (some ⟨P, 0, none⟩), .slice o k cap, .int .i64 most] w (FOut N P n (k + 1) (fstE e (chkL most chkKind xs)) w) := by
 have HH : Hid (FS w N P n e) := h
 have HL : Hid (xs.length = k) := l1
 have HA : Hid (∀ w1, FS w1 N P n e → Calls Tryz.prog 33 #[.pointer (some ⟨P, 0, none⟩), .bool (decide (most < (k : Int))), .int .i64 2] w1 (FOut N P n 1 (fstE e (okE (decide ((k : Int) ≤ most)) 2)) w1)) := fun w1 h1 => by
  have := fadd N P n e 2 (decide (most < (k : Int))) w1 h1 (fun _ => by decide) hNP (by omega)
  have e1 : (!decide (most < (k : Int))) = decide ((k : Int) ≤ most) := by
   by_cases hc : most < (k : Int)
   ·rw [decide_eq_true hc, decide_eq_false (by omega)]; rfl
   ·rw [decide_eq_false hc, decide_eq_true (by omega)]; rfl
  rw [e1] at this
  exact this
 have HC : Hid (∀ e', fstE (fstE e (okE (decide ((k : Int) ≤ most)) 2)) e' = fstE e (fstE (okE (decide ((k : Int) ≤ most)) 2) e')) := fun e' => fstE_assoc _ _ _
 have HD : Hid (fstE e (chkL most chkKind xs) = fstE (fstE e (okE (decide ((k : Int) ≤ most)) 2)) (frst chkKind xs)) := by
  unfold Hid chkL
  rw [l1, fstE_assoc]
 obtain ⟨a, ha⟩ : ∃ a, a = fstE e (okE (decide ((k : Int) ≤ most)) 2) := ⟨_, rfl⟩
 rw [← ha] at HD HA
 clear HC ha h l1
 rw [HD.out]
 clear HD
 generalize hq : decide (most < (k : Int)) = q at HA
 have HQ : Hid (decide (most < (k : Int)) = q) := hq
 by_cases hz : k = 0
 ·subst hz
  have hx : xs = [] := List.length_eq_zero_iff.1 HL.out
  subst hx
  have hq1 : ¬ most < ((0 : Nat) : Int) := by omega
  rw [decide_eq_false hq1] at hq
  subst hq
  have hq0 : ¬ most < 0 := by omega
  clear r1 HQ hq1
  go_enter Tryz.func49, Tryz.ntmps49
  go_wp2_with fail
  refine (HA.out _ HH.out).mono ?_
  rintro r w1 ⟨rfl, h1⟩
  have HR : Hid (type_of% h1) := h1
  clear h1 HA
  go_wp2
  go_loopw [16] (fun i wr => i = .int .i64 0 ∧ wr = w1) (fun _ _ => 0)
  case atStart => exact ⟨rfl, rfl⟩
  case round =>
   obtain ⟨rfl, rfl⟩ := hrel
   go_wp2
   go_end0
   exact ⟨rfl, by have := HR.out; rw [show frst chkKind ([] : List Int) = 0 from rfl, fstE_0]; exact this⟩
 ·obtain ⟨b, f, rfl, h1⟩ := r1.resolve_left (fun e => hz (by rw [← HL.out, e]; rfl))
  have H1 : Hid (type_of% h1) := h1
  clear h1 r1
  cases q with
  | _ =>
   have hqq := HQ.out
   clear HQ
   try (have hlt : most < (k : Int) := of_decide_eq_true hqq)
   try (have hlt : ¬ most < (k : Int) := of_decide_eq_false hqq)
   clear hqq hq
   go_enter Tryz.func49, Tryz.ntmps49
   go_wp2_with fail
   refine (HA.out _ HH.out).mono ?_
   rintro r w1 ⟨rfl, n1, hn1, hf1, hb1, hk1⟩
   have HF1 : Hid (FS w1 N P n1 a) := hf1
   have HB1 : Hid (Below N w w1) := hb1
   have HK1 : Hid (Kp notF w w1) := hk1
   clear HA hf1 hb1 hk1
   go_wp2
   go_loopw [16] (fun i wr => ∃ (j n2 : Nat), i = .int .i64 j ∧ j ≤ k ∧ n2 ≤ n1 + j ∧ Hid (FS wr N P n2 (fstE a (frst chkKind (xs.take j)))) ∧ Hid (Below N w wr) ∧ Hid (Kp notF w wr)) (fun i _ => k - (intOf i).toNat)
   case atStart => exact ⟨0, n1, rfl, by omega, by omega, by unfold Hid; rw [List.take_zero, show frst chkKind ([] : List Int) = 0 from rfl, fstE_0]; exact HF1.out, HB1, HK1⟩
   case round =>
    obtain ⟨j, n2, rfl, hj, hn2, HF, HB2, HK2⟩ := hrel
    by_cases hlt2 : j < k
    ·have hx : j < xs.length := by rw [HL.out]; exact hlt2
     have e1 : wr.cell? ⟨b, f + j, none⟩ = some (.int .u8 xs[j]) := H1.out wr HB2.out HK2.out j hx
     have HT : Hid (fstE a (frst chkKind (xs.take (j + 1))) = fstE (fstE a (frst chkKind (xs.take j))) (chkKind xs[j])) := by
      unfold Hid
      rw [frst_snoc chkKind xs j hx, fstE_assoc]
     generalize xs[j] = x at e1 HT
     have hki0 : (0 : Int) ≤ (j : Int) := by omega
     have hki1 : (j : Int) < (k : Int) := by omega
     have hn3 : n2 ≤ 8796093022208 := by omega
     have HAD : Hid (∀ b, isK x = !b → Calls Tryz.prog 33 #[.pointer (some ⟨P, 0, none⟩), .bool b, .int .i64 1] wr (FOut N P n2 1 (fstE a (frst chkKind (xs.take (j + 1)))) wr)) := fun b hb => by
      have := fadd N P n2 _ 1 b wr HF.out (fun _ => by decide) hNP hn3
      unfold Hid at HT
      rw [HT]
      unfold chkKind
      rw [hb]
      exact this
     clear HT hx
     by_cases hx6 : x = 126
     ·have hb1 : (x == 126) = true := by rw [hx6]; rfl
      have hb2 : (x != 126) = false := by rw [bne, hb1]; rfl
      have HIK : Hid (isK x = !false) := by unfold Hid isK; rw [hb1]; simp
      clear hx6
      go_wp2_with fail
      refine (HAD.out false HIK.out).mono ?_
      rintro r w3 ⟨rfl, n3, g1, g2, g3, g4⟩
      have HF3 : Hid (FS w3 N P n3 (fstE a (frst chkKind (xs.take (j + 1))))) := g2
      have HB3 : Hid (Below N w w3) := HB2.out.trans g3
      have HK3 : Hid (Kp notF w w3) := HK2.out.trans g4
      clear g2 g3 g4 HAD HIK
      go_wp2
      go_roundw
      case rel => exact ⟨j + 1, n3, by go_num, by omega, by omega, HF3, HB3, HK3⟩
      case measure => simp [intOf]; omega
     ·have hb1 : (x == 126) = false := beq_eq_false_iff_ne.2 hx6
      have hb2 : (x != 126) = true := by rw [bne, hb1]; rfl
      by_cases hx7 : x = 127
      ·have hb3 : (x == 127) = true := by rw [hx7]; rfl
       have hb4 : (x != 127) = false := by rw [bne, hb3]; rfl
       have HIK : Hid (isK x = !false) := by unfold Hid isK; rw [hb3]; rfl
       clear hx6 hx7
       go_wp2_with fail
       refine (HAD.out false HIK.out).mono ?_
       rintro r w3 ⟨rfl, n3, g1, g2, g3, g4⟩
       have HF3 : Hid (FS w3 N P n3 (fstE a (frst chkKind (xs.take (j + 1))))) := g2
       have HB3 : Hid (Below N w w3) := HB2.out.trans g3
       have HK3 : Hid (Kp notF w w3) := HK2.out.trans g4
       clear g2 g3 g4 HAD HIK
       go_wp2
       go_roundw
       case rel => exact ⟨j + 1, n3, by go_num, by omega, by omega, HF3, HB3, HK3⟩
       case measure => simp [intOf]; omega
      ·have hb3 : (x == 127) = false := beq_eq_false_iff_ne.2 hx7
       have hb4 : (x != 127) = true := by rw [bne, hb3]; rfl
       have HIK : Hid (isK x = !true) := by unfold Hid isK; rw [hb3, hb1]; rfl
       clear hx6 hx7
       go_wp2_with fail
       refine (HAD.out true HIK.out).mono ?_
       rintro r w3 ⟨rfl, n3, g1, g2, g3, g4⟩
       have HF3 : Hid (FS w3 N P n3 (fstE a (frst chkKind (xs.take (j + 1))))) := g2
       have HB3 : Hid (Below N w w3) := HB2.out.trans g3
       have HK3 : Hid (Kp notF w w3) := HK2.out.trans g4
       clear g2 g3 g4 HAD HIK
       go_wp2
       go_roundw
       case rel => exact ⟨j + 1, n3, by go_num, by omega, by omega, HF3, HB3, HK3⟩
       case measure => simp [intOf]; omega
    ·have HD : Hid (FS wr N P n2 (fstE a (frst chkKind xs))) := by
      have h := HF.out
      rw [List.take_of_length_le (by rw [HL.out]; omega)] at h
      exact h
     clear HF
     go_wp2
     go_end0
     exact ⟨rfl, n2, by omega, HD.out, HB2.out, HK2.out⟩
end Go.Proofs.YtmemiohompdibaaGreatDoor
namespace Go.Proofs.YtmemiohompdibaaGreatDoor
set_option linter.unusedVariables false
open Go.RowKit
theorem box_kp {wr w2 : World} {cs : Array Value} {T : TypeId} (q : Kp notF (wr.alloc (.cells cs T)) w2) (hT : notF T = true) : w2.heap[wr.heap.size]? = some (.cells cs T (0, 0)) := (q.blk _ _ _ _ (new_block _ _) hT).trans (new_block _ _)
theorem faddGt (N P n : Nat) (e c k x : Int) (w : World) (h : FS w N P n e) (hx : x ≠ 0) (hNP : N ≤ P) (hn : n ≤ 8796093022208) :
  Calls Tryz.prog 33 #[.pointer (some ⟨P, 0, none⟩), .bool (decide (c < k)), .int .i64 x] w (FOut N P n 1 (fstE e (okE (decide (k ≤ c)) x)) w) := by
 have := fadd N P n e x (decide (c < k)) w h (fun _ => hx) hNP hn
 have e1 : (!decide (c < k)) = decide (k ≤ c) := by
  by_cases hc : c < k
  ·rw [decide_eq_true hc, decide_eq_false (by omega)]; rfl
  ·rw [decide_eq_false hc, decide_eq_true (by omega)]; rfl
 rw [e1] at this
 exact this
theorem chkFun_eq (d : FunD) : chkFun d = fstE (chkNum d.t) (fstE (chkL 16 chkKind d.l.xs) (nChk d.b)) := by
 unfold chkFun
 rw [fstE_assoc]
 have : okE (nChk d.b == 0) (nChk d.b) = nChk d.b := by
  unfold okE
  split
  ·rename_i h; exact (eq_of_beq h).symm
  ·rfl
 rw [this]
theorem chkL_one (k : Int) : chkL 1 chkKind [k] = chkKind k := by
 unfold chkL frst frst
 rw [show okE (decide ((([k] : List Int).length : Int) ≤ 1)) 2 = 0 from rfl, fstE_zero, fstE_0]
theorem chkGlo_eq (d : GloD) (b : Bool) (hb : b = (d.k == 127 && !s32 d.s)) : chkGlo d = fstE (chkL 1 chkKind [d.k]) (okE (!b) 1) := by
 rw [chkL_one, hb]
 unfold chkGlo chkKind isK
 by_cases h6 : d.k = 126
 ·rw [h6]; rfl
 ·by_cases h7 : d.k = 127
  ·rw [h7]
   cases s32 d.s <;> rfl
  ·have e6 : (d.k == 126) = false := beq_eq_false_iff_ne.2 h6
   have e7 : (d.k == 127) = false := beq_eq_false_iff_ne.2 h7
   rw [e6, e7]
   cases s32 d.s <;> rfl
theorem NumD.ok.stays {k : IntKind} {w0 w : World} {d : NumD} {N : Nat} (h : d.ok k w0) (hN : w0.heap.size ≤ N) (hb : Below N w0 w) : d.xs = [] ∨ ∃ b f, d.o = some ⟨b, f, none⟩ ∧ ∀ w', Below N w w' → Kp notF w w' → ∀ i (h : i < d.xs.length), w'.cell? ⟨b, f + i, none⟩ = some (.int k d.xs[i]) := by
 rcases h.at1 hN with h0 | ⟨b, f, h1, h2, h3⟩
 ·exact Or.inl h0
 ·refine Or.inr ⟨b, f, h1, fun w' b' _ i hi => ?_⟩
  rw [b'.cell (p := ⟨b, f + i, none⟩) h2, hb.cell (p := ⟨b, f + i, none⟩) h2]
  have := h3 i hi 0 (by omega)
  rw [Nat.mul_one, Nat.add_zero] at this
  rw [this]
  rfl
theorem fkindsD (N P n : Nat) (e most : Int) (hm0 : 0 ≤ most) (hm1 : most ≤ 1000) (d : NumD) (w0 w : World) (h : FS w N P n e) (hNP : N ≤ P) (hN : w0.heap.size ≤ N) (hb : Below N w0 w) (hd : d.ok .u8 w0) (hn : n + d.n + 1 ≤ 8796093022208) :
  Calls Tryz.prog 49 #[.pointer (some ⟨P, 0, none⟩), .slice d.o d.n d.cap, .int .i64 most] w (FOut N P n (d.n + 1) (fstE e (chkL most chkKind d.xs)) w) := by
 have m1 := hd.most
 unfold maxLen at m1
 exact fkindsG N P n e most hm0 hm1 d.o d.n d.cap d.xs w h hNP hd.len (hd.stays hN hb) hd.le (by omega) hn
theorem faddLt (N P n : Nat) (e c k x : Int) (w : World) (h : FS w N P n e) (hx : x ≠ 0) (hNP : N ≤ P) (hn : n ≤ 8796093022208) :
  Calls Tryz.prog 33 #[.pointer (some ⟨P, 0, none⟩), .bool (decide (k < c)), .int .i64 x] w (FOut N P n 1 (fstE e (okE (decide (c ≤ k)) x)) w) := faddGt N P n e k c x w h hx hNP hn
end Go.Proofs.YtmemiohompdibaaGreatDoor
