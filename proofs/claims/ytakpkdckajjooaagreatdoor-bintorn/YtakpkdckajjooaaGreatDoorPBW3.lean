/-
  What the texts of a module's parts are.
-/
import Derived.Test.YtakpkdckajjooaaGreatDoorPBW2
import Derived.Laws.Concat
import Derived.Deep.RegionHeld3
set_option maxHeartbeats 8000000
set_option maxRecDepth 1000000
namespace Go.Proofs.YtakpkdckajjooaaGreatDoor
set_option linter.unusedVariables false
open Go.RowKit
theorem bch {N : Nat} {w w' : World} (h : Below N w w' := by repeat' (first | with_reducible exact Below.refl _ _ | with_reducible exact Hid.out (by assumption) | with_reducible refine Below.drew ?_ | with_reducible refine Below.alloc ?_ ?_ _ | (simp only [World.size_alloc, World.size_drew]; omega) | omega)) : Below N w w' := h
theorem bcl {a b : Nat} (h : a ≤ b := by first | (simp only [World.size_alloc, World.size_drew]; omega) | omega) : a ≤ b := h
theorem agg2 {w w' : World} {c0 c1 : Value} {t : TypeId} (h : Below (w.heap.size + 1) (w.alloc (.cells #[c0, c1] t)) w') : w'.cell? ⟨w.heap.size, 0, none⟩ = some c0 ∧ w'.cell? ⟨w.heap.size, 1, none⟩ = some c1 := by
  have := (h.block w.heap.size (Nat.lt_succ_self _)).trans (heap_alloc_new w _)
  simp [World.cell?, this]
theorem agg3 {w w' : World} {c0 c1 c2 : Value} {t : TypeId} (h : Below (w.heap.size + 1) (w.alloc (.cells #[c0, c1, c2] t)) w') : w'.cell? ⟨w.heap.size, 0, none⟩ = some c0 ∧ w'.cell? ⟨w.heap.size, 1, none⟩ = some c1 ∧ w'.cell? ⟨w.heap.size, 2, none⟩ = some c2 := by
  have := (h.block w.heap.size (Nat.lt_succ_self _)).trans (heap_alloc_new w _)
  simp [World.cell?, this]
theorem BB.one' (w : World) (n : Int) (X : Nat) (h : X = w.heap.size) : BB (w.alloc (.cells #[.int .u8 n] 5)) X [n] := by subst h; exact BB.one w n
theorem BB.two' (w : World) (n k : Int) (X : Nat) (h : X = w.heap.size) : BB (w.alloc (.cells #[.int .u8 n, .int .u8 k] 5)) X [n, k] := by subst h; exact BB.two w n k
theorem BB.alloc {w : World} {X : Nat} {ns : List Int} (h : BB w X ns) (c : Obj) : BB (w.alloc c) X ns := h.under ((Below.refl _ _).alloc (Nat.le_refl _) _)
theorem BB.drew {w : World} {X : Nat} {ns : List Int} (h : BB w X ns) : BB w.drew X ns := h
theorem bbx {w : World} {X : Nat} {ns : List Int} (h : BB w X ns := by repeat' (first | with_reducible refine BB.one' _ _ _ ?_ | with_reducible refine BB.two' _ _ _ _ ?_ | with_reducible refine BB.drew ?_ | with_reducible refine BB.alloc ?_ _ | with_reducible refine BB.under ?_ (Hid.out (by assumption)) | (simp only [World.size_alloc, World.size_drew]; done))) : BB w X ns := h
theorem s_txt (a : Int) (h0 : -9223372036854775808 ≤ a) (h1 : a ≤ 9223372036854775807) (w : World) : Calls Tryz.prog 130 #[.int .i64 a] w (Txt w (sB a)) := by
  refine (s_any a h0 h1 w).mono ?_
  rintro r w' ⟨rfl, b⟩
  exact ⟨_, rfl, nums_str (sB_byte a), b⟩
theorem tName_len (s : List Int) (m : Nat) (h : s.length ≤ m) (hm : m ≤ 1000) : (tName s).length ≤ 10 + m := by
  unfold tName
  have h1 := uB_len10 s.length (by omega)
  rw [List.length_append]
  omega
theorem tPlace_len (a : Int) (h0 : -9223372036854775808 ≤ a) (h1 : a ≤ 9223372036854775807) : (tPlace a).length ≤ 13 := by
  have := sB_len64 a h0 h1
  unfold tPlace
  simp
  omega
theorem tNs_len (l : List Int) (m : Nat) (h : l.length ≤ m) (hm : m ≤ 1000) (hk : ∀ k ∈ l, 0 ≤ k ∧ k ≤ 9223372036854775807) : (tNs l).length ≤ 10 + m * 10 := by
  unfold tNs tList
  have h1 := uB_len10 l.length (by omega)
  have h2 := flat_le (fun n : Int => uB n.toNat) 10 l (fun k h => uB_len10 _ (by have := hk k h; omega))
  rw [List.length_append]
  omega
theorem bytes_txt (w : World) (X n : Nat) (ns : List Int) (h : BB w X ns) (hn : ns.length = n) (hb : Bts ns) :
    Calls Tryz.prog 121 #[.slice (some ⟨X, 0, none⟩) n n] w (Txt w ns) := by
  refine (bytes_any w X n ns h hn).mono ?_
  rintro r w' ⟨rfl, rfl⟩
  exact ⟨_, rfl, nums_str hb, Below.refl _ _⟩
theorem constOf_txt (k : Int) (w : World) : Calls Tryz.prog 129 #[.int .u8 k] w fun r w' => r = .returned (.int .u8 (cst k)) ∧ Below w.heap.size w w' := by
  refine (constOf_any k w).mono ?_
  rintro r w' ⟨rfl, rfl⟩
  exact ⟨rfl, Below.refl _ _⟩
theorem box_size {w w' : World} {c : Obj} (b : Below (w.heap.size + 1) (w.alloc c) w') : w.heap.size + 1 ≤ w'.heap.size := by
  have := b.size
  rw [World.size_alloc] at this
  exact this
theorem below_box {N : Nat} {w0 w w' : World} {c : Obj} (hb : Below N w0 w) (hN : N ≤ w.heap.size) (b : Below (w.heap.size + 1) (w.alloc c) w') : Below N w0 w' ∧ N ≤ w'.heap.size := by
  have h1 : Below N w0 (w.alloc c) := hb.alloc hN _
  have h2 := b.size
  rw [World.size_alloc] at h2
  exact ⟨h1.trans (b.mono (by omega)), by omega⟩
theorem chkHost : chkName (nums ⟨#[104, 111, 115, 116]⟩) = 0 := by
  have : okName (nums ⟨#[104, 111, 115, 116]⟩) = true := okHost.2.2
  unfold chkName okE
  rw [this]
  rfl
theorem tKs_len (l : List Int) (m : Nat) (h : l.length ≤ m) (hm : m ≤ 1000) : (tKs l).length ≤ 10 + m := by
  unfold tKs tList
  have h1 := uB_len10 l.length (by omega)
  have h2 := flat_le (fun k : Int => [k]) 1 l (fun _ _ => Nat.le_refl _)
  rw [List.length_append]
  omega
theorem sigText_any (w0 w : World) (i r : NumD) (hb : Below w0.heap.size w0 w) (hi : i.ok .u8 w0) (hr : r.ok .u8 w0) (hin : i.xs.length ≤ 4) (hrn : r.xs.length ≤ 1) (hik : ∀ k ∈ i.xs, 0 ≤ k ∧ k < 256) (hrk : ∀ k ∈ r.xs, 0 ≤ k ∧ k < 256) :
    Calls Tryz.prog 72 #[.agg #[.slice i.o i.n i.cap, .slice r.o r.n r.cap]] w (Txt w (tSig ⟨i.xs, r.xs⟩)) := by
  have hNw : w0.heap.size ≤ w.heap.size := hb.size
  have HC2 : Hid (∀ w', Below (w.heap.size + 1) (w.alloc (.cells #[.slice i.o i.n i.cap, .slice r.o r.n r.cap] 50)) w' → Calls Tryz.prog 122 #[.slice i.o i.n i.cap, .func (.func 123) #[] #[]] w' (Txt w' (tKs i.xs))) := fun w' b => (listText_kin w0.heap.size w0 w' (fun k => [k]) 1 (by omega) i.xs i.o i.n i.cap hi.len hi.le (by have := hi.len; have := hin; omega) (hi.at1 (Nat.le_refl _)) (below_box hb hNw b).1 (below_box hb hNw b).2 (fun _ _ => Nat.le_refl _) (fun k hk w'' _ _ => kindText_any k (hik k hk).1 (hik k hk).2 w'')).mono fun r w'' h => h.eq (by rw [← hi.len]; rfl)
  have HC3 : Hid (∀ w', Below (w.heap.size + 1) (w.alloc (.cells #[.slice i.o i.n i.cap, .slice r.o r.n r.cap] 50)) w' → Calls Tryz.prog 122 #[.slice r.o r.n r.cap, .func (.func 123) #[] #[]] w' (Txt w' (tKs r.xs))) := fun w' b => (listText_kin w0.heap.size w0 w' (fun k => [k]) 1 (by omega) r.xs r.o r.n r.cap hr.len hr.le (by have := hr.len; have := hrn; omega) (hr.at1 (Nat.le_refl _)) (below_box hb hNw b).1 (below_box hb hNw b).2 (fun _ _ => Nat.le_refl _) (fun k hk w'' _ _ => kindText_any k (hrk k hk).1 (hrk k hk).2 w'')).mono fun r w'' h => h.eq (by rw [← hr.len]; rfl)
  have HL2 : Hid ((tKs i.xs).length ≤ 14) := tKs_len _ 4 hin (by omega)
  have HL3 : Hid ((tKs r.xs).length ≤ 11) := tKs_len _ 1 hrn (by omega)
  have HBT1 : Hid (Bts [96]) := fun b hb => by simp at hb; omega
  clear hb hi hr hin hrn hik hrk hNw
  go_enter Tryz.func72, Tryz.ntmps72
  go_wp2
  go_region_held3 (fun w' => w'.cell? ⟨w.heap.size, 0, none⟩ = some (.slice i.o i.n i.cap) ∧ w'.cell? ⟨w.heap.size, 1, none⟩ = some (.slice r.o r.n r.cap))
    (first | exact agg2 bch | go_keep)
    (first
      | (go_at_call 121; (fail_if_success (have := HT1)); refine (bytes_txt _ _ 1 [96] ?_ rfl HBT1.out).mono ?_; exact bbx; rintro r w1 ⟨t1, rfl, ht1, b1⟩; have hz1 : t1.size ≤ 1 := Nat.le_of_eq (size_of ht1); have HT1 : Hid (type_of% ht1) := ht1; have HB1 : Hid (type_of% b1) := b1; have HA1 : Hid (Below (w.heap.size + 1) (w.alloc (.cells #[.slice i.o i.n i.cap, .slice r.o r.n r.cap] 50)) w1) := (by (refine Below.trans ?_ (b1.mono ?_) <;> first | exact bch | exact bcl)); have hs1 : w.heap.size + 1 ≤ w1.heap.size := box_size HA1.out; clear ht1 b1)
      | (go_at_call 122; (fail_if_success (have := HT2)); refine (HC2.out _ ?_).mono ?_; exact bch; rintro r w2 ⟨t2, rfl, ht2, b2⟩; have hz2 : t2.size ≤ 14 := Nat.le_trans (Nat.le_of_eq (size_of ht2)) HL2.out; have HT2 : Hid (type_of% ht2) := ht2; have HB2 : Hid (type_of% b2) := b2; have HA2 : Hid (Below (w.heap.size + 1) (w.alloc (.cells #[.slice i.o i.n i.cap, .slice r.o r.n r.cap] 50)) w2) := (by (refine Below.trans ?_ (b2.mono ?_) <;> first | exact bch | exact bcl)); have hs2 : w.heap.size + 1 ≤ w2.heap.size := box_size HA2.out; have hq2 : ¬ 9223372036854775807 < t1.size + t2.size := (by omega); clear ht2 b2)
      | (go_at_call 122; (fail_if_success (have := HT3)); refine (HC3.out _ ?_).mono ?_; exact bch; rintro r w3 ⟨t3, rfl, ht3, b3⟩; have hz3 : t3.size ≤ 11 := Nat.le_trans (Nat.le_of_eq (size_of ht3)) HL3.out; have HT3 : Hid (type_of% ht3) := ht3; have HB3 : Hid (type_of% b3) := b3; have HA3 : Hid (Below (w.heap.size + 1) (w.alloc (.cells #[.slice i.o i.n i.cap, .slice r.o r.n r.cap] 50)) w3) := (by (refine Below.trans ?_ (b3.mono ?_) <;> first | exact bch | exact bcl)); have hs3 : w.heap.size + 1 ≤ w3.heap.size := box_size HA3.out; have hq3 : ¬ 9223372036854775807 < t1.size + t2.size + t3.size := (by omega); clear ht3 b3))
  all_goals
    go_wp2
    go_ret
    refine ⟨_, rfl, ?_, (Below.trans ((Below.refl _ _).alloc (Nat.le_refl _) _) (HA3.out.mono (Nat.le_succ _)))⟩
    simp only [nums_append]
    rw [HT1.out, HT2.out, HT3.out]
    simp [tSig]
theorem exportText_any (w0 w : World) (s : ByteArray) (n : Int) (hb : Below w0.heap.size w0 w) (hA : Amb w0) (hc : chkName (nums s) = 0) (hl : s.size ≤ 16) (h0 : 0 ≤ n) (h1 : n ≤ 4294967295) :
    Calls Tryz.prog 82 #[.agg #[.string s, .int .i64 n]] w (Txt w (tExp ⟨nums s, n⟩)) := by
  have hNw : w0.heap.size ≤ w.heap.size := hb.size
  have HC1 : Hid (∀ w', Below (w.heap.size + 1) (w.alloc (.cells #[.string s, .int .i64 n] 65)) w' → Calls Tryz.prog 125 #[.string s] w' (Txt w' (tName (nums s)))) := fun w' b => nameText_any s w' (hA.below (below_box hb hNw b).1) hc
  have HC3 : Hid (∀ w', Below (w.heap.size + 1) (w.alloc (.cells #[.string s, .int .i64 n] 65)) w' → Calls Tryz.prog 126 #[.int .i64 n] w' (Txt w' (uB n.toNat))) := fun w' _ => numberText_any n h0 (by omega) w'
  have HL1 : Hid ((tName (nums s)).length ≤ 26) := tName_len _ 16 (by rw [nums_length]; exact hl) (by omega)
  have HL3 : Hid ((uB n.toNat).length ≤ 10) := uB_len10 _ (by omega)
  have HBT2 : Hid (Bts [0]) := fun b hb => by simp at hb; omega
  clear hb hA hc hl h0 h1 hNw
  go_enter Tryz.func82, Tryz.ntmps82
  go_wp2
  go_region_held3 (fun w' => w'.cell? ⟨w.heap.size, 0, none⟩ = some (.string s) ∧ w'.cell? ⟨w.heap.size, 1, none⟩ = some (.int .i64 n))
    (first | exact agg2 bch | go_keep)
    (first
      | (go_at_call 125; (fail_if_success (have := HT1)); refine (HC1.out _ ?_).mono ?_; exact bch; rintro r w1 ⟨t1, rfl, ht1, b1⟩; have hz1 : t1.size ≤ 26 := Nat.le_trans (Nat.le_of_eq (size_of ht1)) HL1.out; have HT1 : Hid (type_of% ht1) := ht1; have HB1 : Hid (type_of% b1) := b1; have HA1 : Hid (Below (w.heap.size + 1) (w.alloc (.cells #[.string s, .int .i64 n] 65)) w1) := (by (refine Below.trans ?_ (b1.mono ?_) <;> first | exact bch | exact bcl)); have hs1 : w.heap.size + 1 ≤ w1.heap.size := box_size HA1.out; clear ht1 b1)
      | (go_at_call 121; (fail_if_success (have := HT2)); refine (bytes_txt _ _ 1 [0] ?_ rfl HBT2.out).mono ?_; exact bbx; rintro r w2 ⟨t2, rfl, ht2, b2⟩; have hz2 : t2.size ≤ 1 := Nat.le_of_eq (size_of ht2); have HT2 : Hid (type_of% ht2) := ht2; have HB2 : Hid (type_of% b2) := b2; have HA2 : Hid (Below (w.heap.size + 1) (w.alloc (.cells #[.string s, .int .i64 n] 65)) w2) := (by (refine Below.trans ?_ (b2.mono ?_) <;> first | exact bch | exact bcl)); have hs2 : w.heap.size + 1 ≤ w2.heap.size := box_size HA2.out; have hq2 : ¬ 9223372036854775807 < t1.size + t2.size := (by omega); clear ht2 b2)
      | (go_at_call 126; (fail_if_success (have := HT3)); refine (HC3.out _ ?_).mono ?_; exact bch; rintro r w3 ⟨t3, rfl, ht3, b3⟩; have hz3 : t3.size ≤ 10 := Nat.le_trans (Nat.le_of_eq (size_of ht3)) HL3.out; have HT3 : Hid (type_of% ht3) := ht3; have HB3 : Hid (type_of% b3) := b3; have HA3 : Hid (Below (w.heap.size + 1) (w.alloc (.cells #[.string s, .int .i64 n] 65)) w3) := (by (refine Below.trans ?_ (b3.mono ?_) <;> first | exact bch | exact bcl)); have hs3 : w.heap.size + 1 ≤ w3.heap.size := box_size HA3.out; have hq3 : ¬ 9223372036854775807 < t1.size + t2.size + t3.size := (by omega); clear ht3 b3))
  all_goals
    go_wp2
    go_ret
    refine ⟨_, rfl, ?_, (Below.trans ((Below.refl _ _).alloc (Nat.le_refl _) _) (HA3.out.mono (Nat.le_succ _)))⟩
    simp only [nums_append]
    rw [HT1.out, HT2.out, HT3.out]
    simp [tExp]
theorem importText_any (w0 w : World) (s : ByteArray) (n : Int) (hb : Below w0.heap.size w0 w) (hA : Amb w0) (hc : chkName (nums s) = 0) (hl : s.size ≤ 16) (h0 : 0 ≤ n) (h1 : n ≤ 4294967295) :
    Calls Tryz.prog 74 #[.agg #[.string s, .int .i64 n]] w (Txt w (tImp ⟨nums s, n⟩)) := by
  have hNw : w0.heap.size ≤ w.heap.size := hb.size
  have HC1 : Hid (∀ w', Below (w.heap.size + 1) (w.alloc (.cells #[.string s, .int .i64 n] 53)) w' → Calls Tryz.prog 125 #[.string ⟨#[104, 111, 115, 116]⟩] w' (Txt w' (tName host))) := fun w' b => nameText_any ⟨#[104, 111, 115, 116]⟩ w' (hA.below (below_box hb hNw b).1) chkHost
  have HL1 : Hid ((tName host).length ≤ 14) := tName_len _ 4 (by decide) (by omega)
  have HC2 : Hid (∀ w', Below (w.heap.size + 1) (w.alloc (.cells #[.string s, .int .i64 n] 53)) w' → Calls Tryz.prog 125 #[.string s] w' (Txt w' (tName (nums s)))) := fun w' b => nameText_any s w' (hA.below (below_box hb hNw b).1) hc
  have HC4 : Hid (∀ w', Below (w.heap.size + 1) (w.alloc (.cells #[.string s, .int .i64 n] 53)) w' → Calls Tryz.prog 126 #[.int .i64 n] w' (Txt w' (uB n.toNat))) := fun w' _ => numberText_any n h0 (by omega) w'
  have HL2 : Hid ((tName (nums s)).length ≤ 26) := tName_len _ 16 (by rw [nums_length]; exact hl) (by omega)
  have HL4 : Hid ((uB n.toNat).length ≤ 10) := uB_len10 _ (by omega)
  have HBT3 : Hid (Bts [0]) := fun b hb => by simp at hb; omega
  clear hb hA hc hl h0 h1 hNw
  go_enter Tryz.func74, Tryz.ntmps74
  go_wp2
  go_region_held3 (fun w' => w'.cell? ⟨w.heap.size, 0, none⟩ = some (.string s) ∧ w'.cell? ⟨w.heap.size, 1, none⟩ = some (.int .i64 n))
    (first | exact agg2 bch | go_keep)
    (first
      | (go_at_call 125; (fail_if_success (have := HT1)); refine (HC1.out _ ?_).mono ?_; exact bch; rintro r w1 ⟨t1, rfl, ht1, b1⟩; have hz1 : t1.size ≤ 14 := Nat.le_trans (Nat.le_of_eq (size_of ht1)) HL1.out; have HT1 : Hid (type_of% ht1) := ht1; have HB1 : Hid (type_of% b1) := b1; have HA1 : Hid (Below (w.heap.size + 1) (w.alloc (.cells #[.string s, .int .i64 n] 53)) w1) := (by (refine Below.trans ?_ (b1.mono ?_) <;> first | exact bch | exact bcl)); have hs1 : w.heap.size + 1 ≤ w1.heap.size := box_size HA1.out; clear ht1 b1)
      | (go_at_call 125; (fail_if_success (have := HT2)); refine (HC2.out _ ?_).mono ?_; exact bch; rintro r w2 ⟨t2, rfl, ht2, b2⟩; have hz2 : t2.size ≤ 26 := Nat.le_trans (Nat.le_of_eq (size_of ht2)) HL2.out; have HT2 : Hid (type_of% ht2) := ht2; have HB2 : Hid (type_of% b2) := b2; have HA2 : Hid (Below (w.heap.size + 1) (w.alloc (.cells #[.string s, .int .i64 n] 53)) w2) := (by (refine Below.trans ?_ (b2.mono ?_) <;> first | exact bch | exact bcl)); have hs2 : w.heap.size + 1 ≤ w2.heap.size := box_size HA2.out; have hq2 : ¬ 9223372036854775807 < t1.size + t2.size := (by omega); clear ht2 b2)
      | (go_at_call 121; (fail_if_success (have := HT3)); refine (bytes_txt _ _ 1 [0] ?_ rfl HBT3.out).mono ?_; exact bbx; rintro r w3 ⟨t3, rfl, ht3, b3⟩; have hz3 : t3.size ≤ 1 := Nat.le_of_eq (size_of ht3); have HT3 : Hid (type_of% ht3) := ht3; have HB3 : Hid (type_of% b3) := b3; have HA3 : Hid (Below (w.heap.size + 1) (w.alloc (.cells #[.string s, .int .i64 n] 53)) w3) := (by (refine Below.trans ?_ (b3.mono ?_) <;> first | exact bch | exact bcl)); have hs3 : w.heap.size + 1 ≤ w3.heap.size := box_size HA3.out; have hq3 : ¬ 9223372036854775807 < t1.size + t2.size + t3.size := (by omega); clear ht3 b3)
      | (go_at_call 126; (fail_if_success (have := HT4)); refine (HC4.out _ ?_).mono ?_; exact bch; rintro r w4 ⟨t4, rfl, ht4, b4⟩; have hz4 : t4.size ≤ 10 := Nat.le_trans (Nat.le_of_eq (size_of ht4)) HL4.out; have HT4 : Hid (type_of% ht4) := ht4; have HB4 : Hid (type_of% b4) := b4; have HA4 : Hid (Below (w.heap.size + 1) (w.alloc (.cells #[.string s, .int .i64 n] 53)) w4) := (by (refine Below.trans ?_ (b4.mono ?_) <;> first | exact bch | exact bcl)); have hs4 : w.heap.size + 1 ≤ w4.heap.size := box_size HA4.out; have hq4 : ¬ 9223372036854775807 < t1.size + t2.size + t3.size + t4.size := (by omega); clear ht4 b4))
  all_goals
    go_wp2
    go_ret
    refine ⟨_, rfl, ?_, (Below.trans ((Below.refl _ _).alloc (Nat.le_refl _) _) (HA4.out.mono (Nat.le_succ _)))⟩
    simp only [nums_append]
    rw [HT1.out, HT2.out, HT3.out, HT4.out]
    simp [tImp, tExp]
theorem globalText_0 (w : World) (k s : Int) (hk : 0 ≤ k ∧ k < 256) (h0 : -9223372036854775808 ≤ s) (h1 : s ≤ 9223372036854775807) :
    Calls Tryz.prog 80 #[.agg #[.int .u8 k, .bool false, .int .i64 s]] w (Txt w (tGlo ⟨k, false, s⟩)) := by
  have HC1 : Hid (∀ w', Below (w.heap.size + 1) (w.alloc (.cells #[.int .u8 k, .bool false, .int .i64 s] 63)) w' → Calls Tryz.prog 123 #[.int .u8 k] w' (Txt w' [k])) := fun w' _ => kindText_any k hk.1 hk.2 w'
  have HC4 : Hid (∀ w', Below (w.heap.size + 1) (w.alloc (.cells #[.int .u8 k, .bool false, .int .i64 s] 63)) w' → Calls Tryz.prog 130 #[.int .i64 s] w' (Txt w' (sB s))) := fun w' _ => s_txt s h0 h1 w'
  have HL1 : Hid ([k].length ≤ 1) := Nat.le_refl _
  have HL4 : Hid ((sB s).length ≤ 10) := sB_len64 s h0 h1
  have HBT3 : Hid (Bts [0, cst k]) := fun b hb => by
    have : cst k = 65 ∨ cst k = 66 := by unfold cst; split <;> simp
    simp at hb
    omega
  have HBT5 : Hid (Bts [11]) := fun b hb => by simp at hb; omega
  clear hk h0 h1
  go_enter Tryz.func80, Tryz.ntmps80
  go_wp2
  go_region_held3 (fun w' => w'.cell? ⟨w.heap.size, 0, none⟩ = some (.int .u8 k) ∧ w'.cell? ⟨w.heap.size, 1, none⟩ = some (.bool false) ∧ w'.cell? ⟨w.heap.size, 2, none⟩ = some (.int .i64 s))
    (first | exact agg3 bch | go_keep)
    (first
      | (go_at_call 123; (fail_if_success (have := HT1)); refine (HC1.out _ ?_).mono ?_; exact bch; rintro r w1 ⟨t1, rfl, ht1, b1⟩; have hz1 : t1.size ≤ 1 := Nat.le_trans (Nat.le_of_eq (size_of ht1)) HL1.out; have HT1 : Hid (type_of% ht1) := ht1; have HB1 : Hid (type_of% b1) := b1; have HA1 : Hid (Below (w.heap.size + 1) (w.alloc (.cells #[.int .u8 k, .bool false, .int .i64 s] 63)) w1) := (by (refine Below.trans ?_ (b1.mono ?_) <;> first | exact bch | exact bcl)); have hs1 : w.heap.size + 1 ≤ w1.heap.size := box_size HA1.out; clear ht1 b1)
      | (go_at_call 129; (fail_if_success (have := HT2)); refine (constOf_txt _ _).mono ?_; rintro r w2 ⟨rfl, b2⟩; have HT2 : Hid True := trivial; have HB2 : Hid (type_of% b2) := b2; have HA2 : Hid (Below (w.heap.size + 1) (w.alloc (.cells #[.int .u8 k, .bool false, .int .i64 s] 63)) w2) := (by (refine Below.trans ?_ (b2.mono ?_) <;> first | exact bch | exact bcl)); have hs2 : w.heap.size + 1 ≤ w2.heap.size := box_size HA2.out; clear b2)
      | (go_at_call 121; (fail_if_success (have := HT3)); refine (bytes_txt _ _ 2 [0, cst k] ?_ rfl HBT3.out).mono ?_; exact bbx; rintro r w3 ⟨t3, rfl, ht3, b3⟩; have hz3 : t3.size ≤ 2 := Nat.le_of_eq (size_of ht3); have HT3 : Hid (type_of% ht3) := ht3; have HB3 : Hid (type_of% b3) := b3; have HA3 : Hid (Below (w.heap.size + 1) (w.alloc (.cells #[.int .u8 k, .bool false, .int .i64 s] 63)) w3) := (by (refine Below.trans ?_ (b3.mono ?_) <;> first | exact bch | exact bcl)); have hs3 : w.heap.size + 1 ≤ w3.heap.size := box_size HA3.out; have hq3 : ¬ 9223372036854775807 < t1.size + t3.size := (by omega); clear ht3 b3)
      | (go_at_call 130; (fail_if_success (have := HT4)); refine (HC4.out _ ?_).mono ?_; exact bch; rintro r w4 ⟨t4, rfl, ht4, b4⟩; have hz4 : t4.size ≤ 10 := Nat.le_trans (Nat.le_of_eq (size_of ht4)) HL4.out; have HT4 : Hid (type_of% ht4) := ht4; have HB4 : Hid (type_of% b4) := b4; have HA4 : Hid (Below (w.heap.size + 1) (w.alloc (.cells #[.int .u8 k, .bool false, .int .i64 s] 63)) w4) := (by (refine Below.trans ?_ (b4.mono ?_) <;> first | exact bch | exact bcl)); have hs4 : w.heap.size + 1 ≤ w4.heap.size := box_size HA4.out; have hq4 : ¬ 9223372036854775807 < t1.size + t3.size + t4.size := (by omega); clear ht4 b4)
      | (go_at_call 121; (fail_if_success (have := HT5)); refine (bytes_txt _ _ 1 [11] ?_ rfl HBT5.out).mono ?_; exact bbx; rintro r w5 ⟨t5, rfl, ht5, b5⟩; have hz5 : t5.size ≤ 1 := Nat.le_of_eq (size_of ht5); have HT5 : Hid (type_of% ht5) := ht5; have HB5 : Hid (type_of% b5) := b5; have HA5 : Hid (Below (w.heap.size + 1) (w.alloc (.cells #[.int .u8 k, .bool false, .int .i64 s] 63)) w5) := (by (refine Below.trans ?_ (b5.mono ?_) <;> first | exact bch | exact bcl)); have hs5 : w.heap.size + 1 ≤ w5.heap.size := box_size HA5.out; have hq5 : ¬ 9223372036854775807 < t1.size + t3.size + t4.size + t5.size := (by omega); clear ht5 b5))
  all_goals
    go_wp2
    go_ret
    refine ⟨_, rfl, ?_, (Below.trans ((Below.refl _ _).alloc (Nat.le_refl _) _) (HA5.out.mono (Nat.le_succ _)))⟩
    simp only [nums_append]
    rw [HT1.out, HT3.out, HT4.out, HT5.out]
    simp [tGlo]
theorem globalText_1 (w : World) (k s : Int) (hk : 0 ≤ k ∧ k < 256) (h0 : -9223372036854775808 ≤ s) (h1 : s ≤ 9223372036854775807) :
    Calls Tryz.prog 80 #[.agg #[.int .u8 k, .bool true, .int .i64 s]] w (Txt w (tGlo ⟨k, true, s⟩)) := by
  have HC1 : Hid (∀ w', Below (w.heap.size + 1) (w.alloc (.cells #[.int .u8 k, .bool true, .int .i64 s] 63)) w' → Calls Tryz.prog 123 #[.int .u8 k] w' (Txt w' [k])) := fun w' _ => kindText_any k hk.1 hk.2 w'
  have HC4 : Hid (∀ w', Below (w.heap.size + 1) (w.alloc (.cells #[.int .u8 k, .bool true, .int .i64 s] 63)) w' → Calls Tryz.prog 130 #[.int .i64 s] w' (Txt w' (sB s))) := fun w' _ => s_txt s h0 h1 w'
  have HL1 : Hid ([k].length ≤ 1) := Nat.le_refl _
  have HL4 : Hid ((sB s).length ≤ 10) := sB_len64 s h0 h1
  have HBT3 : Hid (Bts [1, cst k]) := fun b hb => by
    have : cst k = 65 ∨ cst k = 66 := by unfold cst; split <;> simp
    simp at hb
    omega
  have HBT5 : Hid (Bts [11]) := fun b hb => by simp at hb; omega
  clear hk h0 h1
  go_enter Tryz.func80, Tryz.ntmps80
  go_wp2
  go_region_held3 (fun w' => w'.cell? ⟨w.heap.size, 0, none⟩ = some (.int .u8 k) ∧ w'.cell? ⟨w.heap.size, 1, none⟩ = some (.bool true) ∧ w'.cell? ⟨w.heap.size, 2, none⟩ = some (.int .i64 s))
    (first | exact agg3 bch | go_keep)
    (first
      | (go_at_call 123; (fail_if_success (have := HT1)); refine (HC1.out _ ?_).mono ?_; exact bch; rintro r w1 ⟨t1, rfl, ht1, b1⟩; have hz1 : t1.size ≤ 1 := Nat.le_trans (Nat.le_of_eq (size_of ht1)) HL1.out; have HT1 : Hid (type_of% ht1) := ht1; have HB1 : Hid (type_of% b1) := b1; have HA1 : Hid (Below (w.heap.size + 1) (w.alloc (.cells #[.int .u8 k, .bool true, .int .i64 s] 63)) w1) := (by (refine Below.trans ?_ (b1.mono ?_) <;> first | exact bch | exact bcl)); have hs1 : w.heap.size + 1 ≤ w1.heap.size := box_size HA1.out; clear ht1 b1)
      | (go_at_call 129; (fail_if_success (have := HT2)); refine (constOf_txt _ _).mono ?_; rintro r w2 ⟨rfl, b2⟩; have HT2 : Hid True := trivial; have HB2 : Hid (type_of% b2) := b2; have HA2 : Hid (Below (w.heap.size + 1) (w.alloc (.cells #[.int .u8 k, .bool true, .int .i64 s] 63)) w2) := (by (refine Below.trans ?_ (b2.mono ?_) <;> first | exact bch | exact bcl)); have hs2 : w.heap.size + 1 ≤ w2.heap.size := box_size HA2.out; clear b2)
      | (go_at_call 121; (fail_if_success (have := HT3)); refine (bytes_txt _ _ 2 [1, cst k] ?_ rfl HBT3.out).mono ?_; exact bbx; rintro r w3 ⟨t3, rfl, ht3, b3⟩; have hz3 : t3.size ≤ 2 := Nat.le_of_eq (size_of ht3); have HT3 : Hid (type_of% ht3) := ht3; have HB3 : Hid (type_of% b3) := b3; have HA3 : Hid (Below (w.heap.size + 1) (w.alloc (.cells #[.int .u8 k, .bool true, .int .i64 s] 63)) w3) := (by (refine Below.trans ?_ (b3.mono ?_) <;> first | exact bch | exact bcl)); have hs3 : w.heap.size + 1 ≤ w3.heap.size := box_size HA3.out; have hq3 : ¬ 9223372036854775807 < t1.size + t3.size := (by omega); clear ht3 b3)
      | (go_at_call 130; (fail_if_success (have := HT4)); refine (HC4.out _ ?_).mono ?_; exact bch; rintro r w4 ⟨t4, rfl, ht4, b4⟩; have hz4 : t4.size ≤ 10 := Nat.le_trans (Nat.le_of_eq (size_of ht4)) HL4.out; have HT4 : Hid (type_of% ht4) := ht4; have HB4 : Hid (type_of% b4) := b4; have HA4 : Hid (Below (w.heap.size + 1) (w.alloc (.cells #[.int .u8 k, .bool true, .int .i64 s] 63)) w4) := (by (refine Below.trans ?_ (b4.mono ?_) <;> first | exact bch | exact bcl)); have hs4 : w.heap.size + 1 ≤ w4.heap.size := box_size HA4.out; have hq4 : ¬ 9223372036854775807 < t1.size + t3.size + t4.size := (by omega); clear ht4 b4)
      | (go_at_call 121; (fail_if_success (have := HT5)); refine (bytes_txt _ _ 1 [11] ?_ rfl HBT5.out).mono ?_; exact bbx; rintro r w5 ⟨t5, rfl, ht5, b5⟩; have hz5 : t5.size ≤ 1 := Nat.le_of_eq (size_of ht5); have HT5 : Hid (type_of% ht5) := ht5; have HB5 : Hid (type_of% b5) := b5; have HA5 : Hid (Below (w.heap.size + 1) (w.alloc (.cells #[.int .u8 k, .bool true, .int .i64 s] 63)) w5) := (by (refine Below.trans ?_ (b5.mono ?_) <;> first | exact bch | exact bcl)); have hs5 : w.heap.size + 1 ≤ w5.heap.size := box_size HA5.out; have hq5 : ¬ 9223372036854775807 < t1.size + t3.size + t4.size + t5.size := (by omega); clear ht5 b5))
  all_goals
    go_wp2
    go_ret
    refine ⟨_, rfl, ?_, (Below.trans ((Below.refl _ _).alloc (Nat.le_refl _) _) (HA5.out.mono (Nat.le_succ _)))⟩
    simp only [nums_append]
    rw [HT1.out, HT3.out, HT4.out, HT5.out]
    simp [tGlo]
theorem elemText_any (w0 w : World) (a : Int) (f : NumD) (hb : Below w0.heap.size w0 w) (h0 : -9223372036854775808 ≤ a) (h1 : a ≤ 9223372036854775807) (hf : f.ok .i64 w0) (hfn : f.xs.length ≤ 16) (hfk : ∀ k ∈ f.xs, 0 ≤ k ∧ k ≤ 9223372036854775807) :
    Calls Tryz.prog 85 #[.agg #[.int .i64 a, .slice f.o f.n f.cap]] w (Txt w (tEle ⟨a, f.xs⟩)) := by
  have hNw : w0.heap.size ≤ w.heap.size := hb.size
  have HC1 : Hid (∀ w', Below (w.heap.size + 1) (w.alloc (.cells #[.int .i64 a, .slice f.o f.n f.cap] 68)) w' → Calls Tryz.prog 133 #[.int .i64 a] w' (Txt w' (tPlace a))) := fun w' _ => placeText_any a h0 h1 w'
  have HC2 : Hid (∀ w', Below (w.heap.size + 1) (w.alloc (.cells #[.int .i64 a, .slice f.o f.n f.cap] 68)) w' → Calls Tryz.prog 134 #[.slice f.o f.n f.cap, .func (.func 126) #[] #[]] w' (Txt w' (tNs f.xs))) := fun w' b => (listText_int w0.heap.size w0 w' (fun k => uB k.toNat) 10 (by omega) f.xs f.o f.n f.cap hf.len hf.le (by have := hf.len; omega) (hf.at1 (Nat.le_refl _)) (below_box hb hNw b).1 (below_box hb hNw b).2 (fun k hk => uB_len10 _ (by have := hfk k hk; omega)) (fun k hk w'' _ _ => numberText_any k (hfk k hk).1 (hfk k hk).2 w'')).mono fun r w'' h => h.eq (by rw [← hf.len]; rfl)
  have HL1 : Hid ((tPlace a).length ≤ 13) := tPlace_len a h0 h1
  have HL2 : Hid ((tNs f.xs).length ≤ 170) := tNs_len _ 16 hfn (by omega) hfk
  clear hb hf hfn hfk hNw h0 h1
  go_enter Tryz.func85, Tryz.ntmps85
  go_wp2
  go_region_held3 (fun w' => w'.cell? ⟨w.heap.size, 0, none⟩ = some (.int .i64 a) ∧ w'.cell? ⟨w.heap.size, 1, none⟩ = some (.slice f.o f.n f.cap))
    (first | exact agg2 bch | go_keep)
    (first
      | (go_at_call 133; (fail_if_success (have := HT1)); refine (HC1.out _ ?_).mono ?_; exact bch; rintro r w1 ⟨t1, rfl, ht1, b1⟩; have hz1 : t1.size ≤ 13 := Nat.le_trans (Nat.le_of_eq (size_of ht1)) HL1.out; have HT1 : Hid (type_of% ht1) := ht1; have HB1 : Hid (type_of% b1) := b1; have HA1 : Hid (Below (w.heap.size + 1) (w.alloc (.cells #[.int .i64 a, .slice f.o f.n f.cap] 68)) w1) := (by (refine Below.trans ?_ (b1.mono ?_) <;> first | exact bch | exact bcl)); have hs1 : w.heap.size + 1 ≤ w1.heap.size := box_size HA1.out; clear ht1 b1)
      | (go_at_call 134; (fail_if_success (have := HT2)); refine (HC2.out _ ?_).mono ?_; exact bch; rintro r w2 ⟨t2, rfl, ht2, b2⟩; have hz2 : t2.size ≤ 170 := Nat.le_trans (Nat.le_of_eq (size_of ht2)) HL2.out; have HT2 : Hid (type_of% ht2) := ht2; have HB2 : Hid (type_of% b2) := b2; have HA2 : Hid (Below (w.heap.size + 1) (w.alloc (.cells #[.int .i64 a, .slice f.o f.n f.cap] 68)) w2) := (by (refine Below.trans ?_ (b2.mono ?_) <;> first | exact bch | exact bcl)); have hs2 : w.heap.size + 1 ≤ w2.heap.size := box_size HA2.out; have hq2 : ¬ 9223372036854775807 < t1.size + t2.size := (by omega); clear ht2 b2))
  all_goals
    go_wp2
    go_ret
    refine ⟨_, rfl, ?_, (Below.trans ((Below.refl _ _).alloc (Nat.le_refl _) _) (HA2.out.mono (Nat.le_succ _)))⟩
    simp only [nums_append]
    rw [HT1.out, HT2.out]
    simp [tEle]
theorem dataText_any (w : World) (a : Int) (s : ByteArray) (h0 : -9223372036854775808 ≤ a) (h1 : a ≤ 9223372036854775807) (hs : s.size ≤ 64) :
    Calls Tryz.prog 88 #[.agg #[.int .i64 a, .string s]] w (Txt w (tDat ⟨a, nums s⟩)) := by
  have HC1 : Hid (∀ w', Below (w.heap.size + 1) (w.alloc (.cells #[.int .i64 a, .string s] 70)) w' → Calls Tryz.prog 133 #[.int .i64 a] w' (Txt w' (tPlace a))) := fun w' _ => placeText_any a h0 h1 w'
  have HC2 : Hid (∀ w', Below (w.heap.size + 1) (w.alloc (.cells #[.int .i64 a, .string s] 70)) w' → Calls Tryz.prog 136 #[.string s] w' (Txt w' (tName (nums s)))) := fun w' _ => sized_any s (by omega) w'
  have HL1 : Hid ((tPlace a).length ≤ 13) := tPlace_len a h0 h1
  have HL2 : Hid ((tName (nums s)).length ≤ 74) := tName_len _ 64 (by rw [nums_length]; exact hs) (by omega)
  clear hs h0 h1
  go_enter Tryz.func88, Tryz.ntmps88
  go_wp2
  go_region_held3 (fun w' => w'.cell? ⟨w.heap.size, 0, none⟩ = some (.int .i64 a) ∧ w'.cell? ⟨w.heap.size, 1, none⟩ = some (.string s))
    (first | exact agg2 bch | go_keep)
    (first
      | (go_at_call 133; (fail_if_success (have := HT1)); refine (HC1.out _ ?_).mono ?_; exact bch; rintro r w1 ⟨t1, rfl, ht1, b1⟩; have hz1 : t1.size ≤ 13 := Nat.le_trans (Nat.le_of_eq (size_of ht1)) HL1.out; have HT1 : Hid (type_of% ht1) := ht1; have HB1 : Hid (type_of% b1) := b1; have HA1 : Hid (Below (w.heap.size + 1) (w.alloc (.cells #[.int .i64 a, .string s] 70)) w1) := (by (refine Below.trans ?_ (b1.mono ?_) <;> first | exact bch | exact bcl)); have hs1 : w.heap.size + 1 ≤ w1.heap.size := box_size HA1.out; clear ht1 b1)
      | (go_at_call 136; (fail_if_success (have := HT2)); refine (HC2.out _ ?_).mono ?_; exact bch; rintro r w2 ⟨t2, rfl, ht2, b2⟩; have hz2 : t2.size ≤ 74 := Nat.le_trans (Nat.le_of_eq (size_of ht2)) HL2.out; have HT2 : Hid (type_of% ht2) := ht2; have HB2 : Hid (type_of% b2) := b2; have HA2 : Hid (Below (w.heap.size + 1) (w.alloc (.cells #[.int .i64 a, .string s] 70)) w2) := (by (refine Below.trans ?_ (b2.mono ?_) <;> first | exact bch | exact bcl)); have hs2 : w.heap.size + 1 ≤ w2.heap.size := box_size HA2.out; have hq2 : ¬ 9223372036854775807 < t1.size + t2.size := (by omega); clear ht2 b2))
  all_goals
    go_wp2
    go_ret
    refine ⟨_, rfl, ?_, (Below.trans ((Below.refl _ _).alloc (Nat.le_refl _) _) (HA2.out.mono (Nat.le_succ _)))⟩
    simp only [nums_append]
    rw [HT1.out, HT2.out]
    simp [tDat]
theorem groupText_any (w : World) (z : Nat) (k : Int) (hz : z ≤ 1000) (hk : 0 ≤ k ∧ k < 256) :
    Calls Tryz.prog 139 #[.agg #[.int .i64 (z : Int), .int .u8 k]] w (Txt w (tGrp (z, k))) := by
  have HC1 : Hid (∀ w', Below (w.heap.size + 1) (w.alloc (.cells #[.int .i64 (z : Int), .int .u8 k] 185)) w' → Calls Tryz.prog 126 #[.int .i64 (z : Int)] w' (Txt w' (uB z))) := fun w' _ => numberText_any (z : Int) (by omega) (by omega) w'
  have HC2 : Hid (∀ w', Below (w.heap.size + 1) (w.alloc (.cells #[.int .i64 (z : Int), .int .u8 k] 185)) w' → Calls Tryz.prog 123 #[.int .u8 k] w' (Txt w' [k])) := fun w' _ => kindText_any k hk.1 hk.2 w'
  have HL1 : Hid ((uB z).length ≤ 10) := uB_len10 _ (by omega)
  have HL2 : Hid ([k].length ≤ 1) := Nat.le_refl _
  clear hz hk
  go_enter Tryz.func139, Tryz.ntmps139
  go_wp2
  go_region_held3 (fun w' => w'.cell? ⟨w.heap.size, 0, none⟩ = some (.int .i64 (z : Int)) ∧ w'.cell? ⟨w.heap.size, 1, none⟩ = some (.int .u8 k))
    (first | exact agg2 bch | go_keep)
    (first
      | (go_at_call 126; (fail_if_success (have := HT1)); refine (HC1.out _ ?_).mono ?_; exact bch; rintro r w1 ⟨t1, rfl, ht1, b1⟩; have hz1 : t1.size ≤ 10 := Nat.le_trans (Nat.le_of_eq (size_of ht1)) HL1.out; have HT1 : Hid (type_of% ht1) := ht1; have HB1 : Hid (type_of% b1) := b1; have HA1 : Hid (Below (w.heap.size + 1) (w.alloc (.cells #[.int .i64 (z : Int), .int .u8 k] 185)) w1) := (by (refine Below.trans ?_ (b1.mono ?_) <;> first | exact bch | exact bcl)); have hs1 : w.heap.size + 1 ≤ w1.heap.size := box_size HA1.out; clear ht1 b1)
      | (go_at_call 123; (fail_if_success (have := HT2)); refine (HC2.out _ ?_).mono ?_; exact bch; rintro r w2 ⟨t2, rfl, ht2, b2⟩; have hz2 : t2.size ≤ 1 := Nat.le_trans (Nat.le_of_eq (size_of ht2)) HL2.out; have HT2 : Hid (type_of% ht2) := ht2; have HB2 : Hid (type_of% b2) := b2; have HA2 : Hid (Below (w.heap.size + 1) (w.alloc (.cells #[.int .i64 (z : Int), .int .u8 k] 185)) w2) := (by (refine Below.trans ?_ (b2.mono ?_) <;> first | exact bch | exact bcl)); have hs2 : w.heap.size + 1 ≤ w2.heap.size := box_size HA2.out; have hq2 : ¬ 9223372036854775807 < t1.size + t2.size := (by omega); clear ht2 b2))
  all_goals
    go_wp2
    go_ret
    refine ⟨_, rfl, ?_, (Below.trans ((Below.refl _ _).alloc (Nat.le_refl _) _) (HA2.out.mono (Nat.le_succ _)))⟩
    simp only [nums_append]
    rw [HT1.out, HT2.out]
    rfl
end Go.Proofs.YtakpkdckajjooaaGreatDoor
