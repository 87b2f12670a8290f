/-
 No kind that is not known lies on the stack where nothing is dead; an instruction of numbers takes what it takes and gives what it gives.
 What Shapes says of a sound body, place by place.
 The law of the stack ahead of an instruction of numbers and behind it.
-/
import Derived.Test.YtoikoijpkchamaaGreatDoorAVP
import Derived.Test.YtoikoijpkchamaaGreatDoorAVO
import Derived.Test.YtoikoijpkchamaaGreatDoorAVM
import Derived.Test.YtoikoijpkchamaaGreatDoorAVN
import Derived.Test.YtoikoijpkchamaaGreatDoorAQY
set_option maxHeartbeats 4000000
set_option maxRecDepth 1000000
namespace Go.Proofs.YtoikoijpkchamaaGreatDoor
open Go.RowKit
set_option linter.unusedVariables false
def NZ (l : List Int) : Prop := ∀ x ∈ l, x ≠ 0
theorem NZ.nil : NZ [] := fun x hx => by cases hx
theorem NZ.one {x : Int} (h : x ≠ 0) : NZ [x] := fun y hy => by
 obtain rfl : y = x := by simpa using hy
 exact h
theorem NZ.two {x y : Int} (h : x ≠ 0) (k : y ≠ 0) : NZ [x, y] := fun z hz => by
 rcases List.mem_cons.1 hz with rfl | hz
 ·exact h
 ·obtain rfl : z = y := by simpa using hz
  exact k
theorem NZ.rev {l : List Int} (h : NZ l) : NZ l.reverse := fun x hx => h x (List.mem_reverse.1 hx)
theorem kMem_nz (op : Int) : kMem op ≠ 0 := by
 unfold kMem
 split <;> decide
theorem kGive_nz (op : Int) : kGive op ≠ 0 := by
 unfold kGive
 repeat' split
 all_goals decide
theorem kTake_nz (op : Int) : kTake op ≠ 0 := by
 unfold kTake
 repeat' split
 all_goals decide
theorem pOut_nz (op : Int) : NZ (pOut op) := by
 unfold pOut
 repeat' split
 all_goals first | exact NZ.nil | exact NZ.one (by decide) | exact NZ.one (kMem_nz op) | exact NZ.one (kGive_nz op)
theorem pIn_nz (op : Int) : NZ (pIn op) := by
 unfold pIn
 repeat' split
 all_goals first | exact NZ.nil | exact NZ.one (by decide) | exact NZ.one (kTake_nz op) | exact NZ.two (by decide) (kMem_nz op) | exact NZ.two (kTake_nz op) (kTake_nz op)
theorem opt_nz {α : Type} {f : α → List Int} {x : Option α} (h : ∀ a, x = some a → NZ (f a)) : NZ ((x.map f).getD []) := by
 cases x with
 | none => exact NZ.nil
 | some a => exact h a rfl
theorem along_nz {b : BlkV} (h : NZ b.ks) : NZ b.along := by
 unfold BlkV.along
 split
 ·exact NZ.nil
 ·exact h
theorem onG_nz {k op : Int} (h : k ≠ 0) : NZ (onG k op) := by
 unfold onG
 split
 ·exact NZ.one h
 ·first | exact NZ.nil | exact NZ.one h
structure KindsNZ (m : ModD) (loc : List Int) : Prop where
 ty : ∀ d ∈ m.types, NZ d.r.xs
 gl : ∀ d ∈ m.globals, d.k ≠ 0
 lo : NZ loc
theorem bang_nz {LT : List SigD} (h : ∀ d ∈ LT, NZ d.r.xs) (k : Nat) : NZ (LT[k]!).r.xs := by
 by_cases hk : k < LT.length
 ·rw [getElem!_pos LT k hk]; exact h _ (List.getElem_mem hk)
 ·rw [getElem!_neg LT k hk]; exact NZ.nil
theorem eff_nz {m : ModD} {loc : List Int} {ops : List BlkV} (op a : Int) (hm : KindsNZ m loc) (hk : ∀ b ∈ ops, NZ b.ks) : NZ (effV m loc ops op a).2 := by
 unfold effV
 split
 ·exact NZ.nil
 split
 ·exact NZ.nil
 split
 ·exact opt_nz fun b e => along_nz (hk b (List.mem_of_getElem? e))
 split
 ·exact NZ.nil
 split
 ·exact NZ.nil
 split
 ·show NZ (sigAt m.types m.imports m.funcs a.toNat).r.xs
  unfold sigAt
  split
  ·exact bang_nz hm.ty _
  ·exact bang_nz hm.ty _
 split
 ·exact opt_nz fun d e => hm.ty d (List.mem_of_getElem? e)
 split
 ·exact opt_nz fun k e => onG_nz (hm.lo k (List.mem_of_getElem? e))
 split
 ·exact opt_nz fun d e => onG_nz (hm.gl d (List.mem_of_getElem? e))
 ·exact pOut_nz op
def ZedS (ops : List BlkV) (st : List Int) : Prop := ∀ i : Nat, st[i]? = some 0 → ∃ b ∈ ops, b.dead = true ∧ b.base ≤ i
theorem ZedS.take {ops : List BlkV} {st : List Int} (h : ZedS ops st) (n : Nat) : ZedS ops (st.take n) := fun i hi => by
 rw [List.getElem?_take] at hi
 split at hi
 ·exact h i hi
 ·cases hi
theorem ZedS.app {ops : List BlkV} {st l : List Int} (h : ZedS ops st) (k : NZ l) : ZedS ops (st ++ l) := fun i hi => by
 rw [List.getElem?_append] at hi
 split at hi
 ·exact h i hi
 ·exact absurd rfl (k 0 (List.mem_of_getElem? hi))
theorem ZedS.low {pre : List BlkV} {b : BlkV} {st : List Int} (h : ZedS (pre ++ [b]) st) (hl : st.length ≤ b.base) : ZedS pre st := fun i hi => by
 obtain ⟨x, hx, h1, h2⟩ := h i hi
 have hlt : i < st.length := by
  by_cases c : i < st.length
  ·exact c
  ·rw [List.getElem?_eq_none (by omega)] at hi; cases hi
 rcases List.mem_append.1 hx with q | q
 ·exact ⟨x, q, h1, h2⟩
 ·obtain rfl : x = b := by simpa using q
  omega
theorem ZedS.more {pre l : List BlkV} {st : List Int} (h : ZedS pre st) : ZedS (pre ++ l) st := fun i hi => by
 obtain ⟨x, hx, h1, h2⟩ := h i hi
 exact ⟨x, List.mem_append_left _ hx, h1, h2⟩
theorem take_pre (k : Int) (st : List Int) (b : BlkV) (bad : Bool) : ∃ n, (takeV k st b bad).2.1 = st.take n := by
 unfold takeV
 split
 ·exact ⟨st.length, List.take_length.symm⟩
 ·exact ⟨st.length - 1, List.dropLast_eq_take⟩
theorem tks_pre (b : BlkV) : ∀ (l : List Int) (s : List Int × Bool), ∃ n, (tksV b l s).1 = s.1.take n
 | [], s => ⟨s.1.length, List.take_length.symm⟩
 | k :: l, s => by
  rw [tksV_cons]
  obtain ⟨n, hn⟩ := tks_pre b l ((takeV k s.1 b s.2).2.1, (takeV k s.1 b s.2).2.2)
  obtain ⟨n', hn'⟩ := take_pre k s.1 b s.2
  rw [hn]
  dsimp only
  rw [hn', List.take_take]
  exact ⟨_, rfl⟩
theorem zed_takes {ops : List BlkV} {b : BlkV} {st : List Int} (h : ZedS ops st) (l : List Int) (bad : Bool) : ZedS ops (tksV b l (st, bad)).1 := by
 obtain ⟨n, hn⟩ := tks_pre b l (st, bad)
 rw [hn]
 exact h.take n
theorem zed_take {ops : List BlkV} {b : BlkV} {st : List Int} (h : ZedS ops st) (k : Int) (bad : Bool) : ZedS ops (takeV k st b bad).2.1 := by
 obtain ⟨n, hn⟩ := take_pre k st b bad
 rw [hn]
 exact h.take n
theorem take_none {ops : List BlkV} {b : BlkV} {s : List Int} {k : Int} {bad : Bool} (h : ZedS ops s) (hb : b ∈ ops) (hl : b.base ≤ s.length) (hz : (takeV k s b bad).2.2 = false) (h0 : (takeV k s b bad).1 = 0) : ∃ c ∈ ops, c.dead = true ∧ c.base ≤ (takeV k s b bad).2.1.length := by
 unfold takeV at hz h0 ⊢
 split at hz
 ·rename_i hle
  rw [if_pos hle] at h0 ⊢
  simp only [Bool.or_eq_false_iff, Bool.not_eq_false'] at hz
  exact ⟨b, hb, hz.2, hl⟩
 ·rename_i hle
  rw [if_neg hle] at h0 ⊢
  dsimp only at h0 ⊢
  split at h0
  ·have hne : s ≠ [] := fun e => hle (by rw [e]; exact Nat.zero_le _)
   have hi : s[s.length - 1]? = some 0 := by
    rw [← List.getLast?_eq_getElem?, List.getLast?_eq_some_getLast hne]
    rw [List.getLastD_eq_getLast?, List.getLast?_eq_some_getLast hne] at h0
    exact congrArg some h0
   obtain ⟨c, hc, h1, h2⟩ := h _ hi
   exact ⟨c, hc, h1, by rw [List.length_dropLast]; exact h2⟩
  ·rename_i hk
   exact absurd h0 hk
theorem zed_choose {ops : List BlkV} {b : BlkV} {st : List Int} {bad : Bool} (h : ZedS ops st) (hb : b ∈ ops) (hl : b.base ≤ st.length) (hz : (chooseV st b bad).2 = false) : ZedS ops (chooseV st b bad).1 := by
 have r1 := takeV_base (k := 127) (bad := bad) hl
 have r2 := takeV_base (k := 0) (bad := (takeV 127 st b bad).2.2) r1.1
 have z1 := zed_take (b := b) h 127 bad
 have z2 := zed_take (b := b) z1 0 (takeV 127 st b bad).2.2
 unfold chooseV at hz ⊢
 dsimp only at hz ⊢
 intro i hi
 rw [List.getElem?_append] at hi
 split at hi
 ·exact zed_take (b := b) z2 _ _ i hi
 ·rename_i hlt
  have he : (takeV (takeV 0 (takeV 127 st b bad).2.1 b (takeV 127 st b bad).2.2).1 (takeV 0 (takeV 127 st b bad).2.1 b (takeV 127 st b bad).2.2).2.1 b (takeV 0 (takeV 127 st b bad).2.1 b (takeV 127 st b bad).2.2).2.2).1 = 0 := by
   have := List.mem_of_getElem? hi
   exact (List.mem_singleton.1 this).symm
  obtain ⟨c, hc, h1, h2⟩ := take_none z2 hb r2.1 hz he
  exact ⟨c, hc, h1, by omega⟩
structure TrkV.zed (T : TrkV) : Prop where
 st : ZedS T.ops T.st
 ks : ∀ b ∈ T.ops, NZ b.ks
theorem pass1_zed {m : ModD} {loc st : List Int} {pre : List BlkV} {b : BlkV} {op a : Int} (hm : KindsNZ m loc) (h : TrkV.zed ⟨st, pre ++ [b], false⟩) (hl : b.base ≤ st.length) (hz : (pass1 m loc st pre b false op a).bad = false) : (pass1 m loc st pre b false op a).zed := by
 have hb : NZ b.ks := h.ks b (by simp)
 have hp : ∀ x ∈ pre, NZ x.ks := fun x hx => h.ks x (by simp [hx])
 have hs : ZedS (pre ++ [b]) st := h.st
 have hfin : (finV st b false).2 = false → ZedS pre (finV st b false).1 := fun e => by
  unfold finV at e ⊢
  simp only [Bool.or_eq_false_iff, Bool.not_eq_false', beq_iff_eq] at e
  exact (zed_takes hs _ _).low (by omega)
 unfold pass1 at hz ⊢
 split
 ·exact ⟨zed_take hs _ _, h.ks⟩
 rename_i c26
 rw [if_neg c26] at hz
 split
 ·rename_i c27
  rw [if_pos c27] at hz
  exact ⟨zed_choose hs (by simp) hl hz, h.ks⟩
 rename_i c27
 rw [if_neg c27] at hz
 split
 ·rename_i c5
  rw [if_pos c5] at hz
  refine ⟨(hfin hz).more, fun x hx => ?_⟩
  rcases List.mem_append.1 hx with q | q
  ·exact hp x q
  ·obtain rfl : x = { b with op := 5, dead := false } := by simpa using q
   exact hb
 rename_i c5
 rw [if_neg c5] at hz
 split
 ·rename_i c11
  rw [if_pos c11] at hz
  have hz' := (Bool.or_eq_false_iff.1 hz).1
  exact ⟨(hfin hz').app hb, hp⟩
 ·exact ⟨(zed_takes hs _ _).app (eff_nz op a hm h.ks), h.ks⟩
theorem ksOf_nz {a : Int} (h : a ≠ 0) : NZ (ksOf a) := by
 unfold ksOf
 split
 ·exact NZ.nil
 ·exact NZ.one h
theorem passV_zed {m : ModD} {loc st : List Int} {pre : List BlkV} {b : BlkV} {op a : Int} (hm : KindsNZ m loc) (h : TrkV.zed ⟨st, pre ++ [b], false⟩) (hl : b.base ≤ st.length) (ha : op = 2 ∨ op = 3 ∨ op = 4 → a ≠ 0) (hz : (passV m loc st pre b false op a).bad = false) : (passV m loc st pre b false op a).zed := by
 have hz1 : (pass1 m loc st pre b false op a).bad = false := by
  unfold passV at hz
  split at hz
  ·exact hz
  split at hz
  ·exact hz
  ·exact hz
 have h1 := pass1_zed hm h hl hz1
 unfold passV
 split
 ·rename_i ho
  refine ⟨h1.st.more, fun x hx => ?_⟩
  rcases List.mem_append.1 hx with q | q
  ·exact h1.ks x q
  ·obtain rfl : x = ⟨op, ksOf a, _, false⟩ := by simpa using q
   exact ksOf_nz (ha ho)
 split
 ·rename_i n2 ho
  have e1 : (pass1 m loc st pre b false op a).ops = pre ++ [b] := by
   unfold pass1
   rw [if_neg (by omega), if_neg (by omega), if_neg (by omega), if_neg (by omega)]
  have s1 : ZedS (pre ++ [b]) (pass1 m loc st pre b false op a).st := by rw [← e1]; exact h1.st
  refine ⟨((s1.take b.base).low (by rw [List.length_take]; omega)).more, fun x hx => ?_⟩
  rcases List.mem_append.1 hx with q | q
  ·exact h.ks x (by simp [q])
  ·obtain rfl : x = { b with dead := true } := by simpa using q
   exact h.ks b (by simp)
 ·exact h1
theorem tks_exact {b : BlkV} (hd : b.dead = false) : ∀ (l s : List Int) (bad : Bool), NZ s → NZ l → (tksV b l (s, bad)).2 = false → s = (tksV b l (s, bad)).1 ++ l.reverse ∧ bad = false
 | [], s, bad, _, _, h => ⟨by show s = s ++ []; rw [List.append_nil], h⟩
 | k :: l, s, bad, hs, hk, h => by
  rw [tksV_cons] at h ⊢
  dsimp only at h ⊢
  obtain ⟨n, hn⟩ := take_pre k s b bad
  obtain ⟨h1, h2⟩ := tks_exact hd l (takeV k s b bad).2.1 (takeV k s b bad).2.2 (by rw [hn]; exact fun x hx => hs x (List.mem_of_mem_take hx)) (fun x hx => hk x (List.mem_cons_of_mem _ hx)) h
  have hk0 : k ≠ 0 := hk k (by simp)
  rw [List.reverse_cons, ← List.append_assoc, ← h1]
  unfold takeV at h2 ⊢
  split at h2
  ·rw [hd] at h2
   simp at h2
  ·rename_i hle
   rw [if_neg hle]
   dsimp only at h2
   have hne : s ≠ [] := fun e => hle (by rw [e]; exact Nat.zero_le _)
   have hlast : s.getLastD 0 = s.getLast hne := by rw [List.getLastD_eq_getLast?, List.getLast?_eq_some_getLast hne]; rfl
   have hl0 : s.getLast hne ≠ 0 := hs _ (List.getLast_mem hne)
   rw [hlast] at h2
   simp only [Bool.or_eq_false_iff, Bool.not_eq_false', Bool.or_eq_true, beq_iff_eq] at h2
   rcases h2.2 with e | e
   ·exact ⟨by show s = s.dropLast ++ [k]; rw [← e]; exact (List.dropLast_concat_getLast hne).symm, h2.1⟩
   ·exact absurd e hl0
theorem pIs_ge {op : Int} (h : pIs op = true) : 40 ≤ op ∧ op ≠ 0 := by
 unfold pIs at h
 simp only [Bool.or_eq_true, decide_eq_true_eq] at h
 rcases h with ((h | h) | h) | h
 ·omega
 ·unfold insW at h
  refine ⟨?_, ?_⟩ <;> (repeat' split at h) <;> omega
 ·unfold insN isOne at h
  by_cases c : 40 ≤ op
  ·omega
  ·exfalso
   revert h
   split
   ·rename_i e
    simp at e
    omega
   ·unfold isTwo
    split
    ·intro h; exact absurd h (by decide)
    ·intro h; exact absurd h (by decide)
 ·unfold insN isTwo at h
  by_cases c : 40 ≤ op
  ·omega
  ·exfalso
   revert h
   split
   ·intro h; exact absurd h (by decide)
   ·split
    ·rename_i e
     simp at e
     omega
    ·intro h; exact absurd h (by decide)
theorem plain_step {m : ModD} {loc st : List Int} {pre : List BlkV} {b : BlkV} {op a : Int} {xs : List Int} (hp : pIs op = true) (h : TrkV.zed ⟨st, pre ++ [b], false⟩) (hd : (pre ++ [b]).any BlkV.dead = false) (hz : (stepV m loc st pre b false op a xs).1 = 0) :
  ∃ many, st = many ++ pIn op ∧ (stepV m loc st pre b false op a xs).2.st = many ++ pOut op ∧ (stepV m loc st pre b false op a xs).2.ops = pre ++ [b] := by
 obtain ⟨_, _, _, h4, h5⟩ := step_zero hz
 obtain ⟨ho, _⟩ := pIs_ge hp
 have hnz : NZ st := fun x hx e => by
  subst e
  obtain ⟨i, hi⟩ := List.mem_iff_getElem?.1 hx
  obtain ⟨c, hc, h1, _⟩ := h.st i hi
  have : (pre ++ [b]).any BlkV.dead = true := List.any_eq_true.2 ⟨c, hc, h1⟩
  rw [hd] at this
  cases this
 have hbd : b.dead = false := by
  cases e : b.dead with
  | false => rfl
  | true =>
   have : (pre ++ [b]).any BlkV.dead = true := List.any_eq_true.2 ⟨b, by simp, e⟩
   rw [hd] at this
   cases this
 rw [h5]
 dsimp only
 have e1 : effV m loc (pre ++ [b]) op a = (pIn op, pOut op) := by
  unfold effV
  rw [if_neg (by omega), if_neg (by omega), if_neg (by omega), if_neg (by omega), if_neg (by omega), if_neg (by omega), if_neg (by omega), if_neg (by omega), if_neg (by omega)]
 have e2 : passV m loc st pre b false op a = ⟨(tksV b (pIn op).reverse (st, false)).1 ++ pOut op, pre ++ [b], (tksV b (pIn op).reverse (st, false)).2⟩ := by
  unfold passV
  rw [if_neg (by omega), if_neg (by omega)]
  unfold pass1
  rw [if_neg (by omega), if_neg (by omega), if_neg (by omega), if_neg (by omega), e1]
 rw [e2] at h4 ⊢
 dsimp only at h4 ⊢
 have := tks_exact hbd (pIn op).reverse st false hnz (pIn_nz op).rev h4
 rw [List.reverse_reverse] at this
 exact ⟨_, this.1, rfl, rfl⟩
end Go.Proofs.YtoikoijpkchamaaGreatDoor
namespace Go.Proofs.YtoikoijpkchamaaGreatDoor
open Go.RowKit
set_option linter.unusedVariables false
theorem mChk_kinds {m : ModD} (h : mChk m = 0) : (∀ d ∈ m.types, (∀ k ∈ d.i.xs, chkKind k = 0) ∧ ∀ k ∈ d.r.xs, chkKind k = 0) ∧ (∀ d ∈ m.funcs, ∀ k ∈ d.l.xs, chkKind k = 0) ∧ ∀ d ∈ m.globals, chkKind d.k = 0 := by
 unfold mChk at h
 obtain ⟨h1, h⟩ := fstE_eq0 h
 obtain ⟨_, h⟩ := fstE_eq0 h
 obtain ⟨h3, h⟩ := fstE_eq0 h
 obtain ⟨_, h⟩ := fstE_eq0 h
 obtain ⟨_, h⟩ := fstE_eq0 h
 obtain ⟨_, h⟩ := fstE_eq0 h
 obtain ⟨_, h⟩ := fstE_eq0 h
 obtain ⟨h8, _⟩ := fstE_eq0 h
 refine ⟨fun d hd => ?_, fun d hd => ?_, fun d hd => ?_⟩
 ·have a := (chkL_eq0 h1).2 d hd
  exact ⟨(chkL_eq0 (fstE_eq0 a).1).2, (chkL_eq0 (fstE_eq0 a).2).2⟩
 ·have a := (chkL_eq0 h3).2 d hd
  exact (chkL_eq0 (fstE_eq0 (fstE_eq0 a).1).2).2
 ·exact (fstE_eq0 ((chkL_eq0 h8).2 d hd)).1
theorem kind_nz {k : Int} (h : chkKind k = 0) : k ≠ 0 := by rcases kind_not64 h with e | e <;> omega
theorem kinds_nz {m : ModD} (h : mChk m = 0) (t j : Nat) (hj : j < m.funcs.length) : KindsNZ m ((m.types[t]!).i.xs ++ (m.funcs[j]!).l.xs) := by
 obtain ⟨h1, h2, h3⟩ := mChk_kinds h
 refine ⟨fun d hd k hk => kind_nz ((h1 d hd).2 k hk), fun d hd => kind_nz (h3 d hd), fun k hk => ?_⟩
 rcases List.mem_append.1 hk with hk | hk
 ·by_cases ht : t < m.types.length
  ·rw [getElem!_pos m.types t ht] at hk
   exact kind_nz ((h1 _ (List.getElem_mem ht)).1 k hk)
  ·rw [getElem!_neg m.types t ht] at hk
   cases hk
 ·rw [getElem!_pos m.funcs j hj] at hk
  exact kind_nz (h2 _ (List.getElem_mem hj) k hk)
theorem blk_kind {d : InsD} (h : chkD d = 0) (ho : d.op = 2 ∨ d.op = 3 ∨ d.op = 4) : d.A ≠ 0 := by
 unfold chkD chkV at h
 split at h
 ·exact absurd h (by decide)
 split at h
 ·exact absurd h (by decide)
 have hf : fitB (besV d.op) d.A d.B d.n d.xs = true := by
  split at h
  ·assumption
  ·exact absurd h (by decide)
 have hb : besV d.op = 2 := by unfold besV; rw [if_neg (by omega), if_pos ho]
 rw [hb] at hf
 unfold fitB at hf
 split at hf
 ·exact absurd hf (by decide)
 split at hf
 ·exact absurd hf (by decide)
 rw [if_pos rfl] at hf
 intro e
 rw [e] at hf
 exact absurd hf (by decide)
theorem RunI.zed {m : ModD} {loc : List Int} {L : List InsD} {R : Int × Int} {T0 : TrkV} (hm : ∀ d ∈ m.types, d.r.xs.length ≤ 10) (hk : KindsNZ m loc) (h : RunI m loc L R 0 T0) (hz : R.2 = 0) (h0 : T0.zed) : ∀ i, i ≤ L.length → (stV m loc (L.take i) T0).zed
 | 0, _ => h0
 | i + 1, hi => by
  have ih := RunI.zed hm hk h hz h0 i (by omega)
  have ia := RunI.at hm h hz i (by omega)
  have hlt : i < L.length := by omega
  obtain ⟨hc, pre, b, ho, _⟩ := ia.here hlt
  rw [List.take_succ_eq_append_getElem hlt, stV_snoc]
  revert ih ia ho
  generalize stV m loc (L.take i) T0 = T
  intro ih ia ho
  obtain ⟨st, ops, bad⟩ := T
  dsimp only at ho
  subst ho
  have hbad : bad = false := ia.bad
  subst hbad
  rw [nextV_eq]
  have hE : (stepV m loc st pre b false (L[i]).op (L[i]).A (L[i]).xs).1 = 0 := by
   by_cases hE : (stepV m loc st pre b false (L[i]).op (L[i]).A (L[i]).xs).1 = 0
   ·exact hE
   ·have := ia.stop hlt hE
    rw [this] at hz
    exact absurd hz hE
  obtain ⟨_, _, _, h4, h5⟩ := step_zero hE
  rw [h5]
  exact passV_zed hk ih (ia.ok.bases b (by simp)) (blk_kind hc) h4
theorem shapes_len (m : ModD) (j : Nat) : (shapesV m j).length = (m.funcs[j]!).b.length := by
 unfold shapesV
 rw [List.length_map, List.length_range]
theorem shapes_at (m : ModD) (j i : Nat) (hi : i < (m.funcs[j]!).b.length) : (shapesV m j)[i]? = some (shpV (stV m ((m.types[(m.funcs[j]!).t.toNat]!).i.xs ++ (m.funcs[j]!).l.xs) ((m.funcs[j]!).b.take i) ⟨[], [⟨2, (m.types[(m.funcs[j]!).t.toNat]!).r.xs, 0, false⟩], false⟩)) := by
 unfold shapesV
 rw [List.getElem?_map, List.getElem?_range hi]
 rfl
theorem shp_alive {T : TrkV} {s : List Int} (h : shpV T = (false, s)) : T.ops.any BlkV.dead = false ∧ T.st = s := by
 unfold shpV at h
 split at h
 ·cases h
 ·rename_i hd
  exact ⟨by simpa using hd, (Prod.mk.inj h).2⟩
theorem shapes_steps {w : World} {m : ModD} {j : Nat} (hm : m.ok w) (hz : modE m = 0) (hj : j < m.funcs.length) (hb : 0 < (m.funcs[j]!).b.length) : (shapesV m j)[0]? = some (false, []) ∧
  ∀ (k : Nat) (hk : k < (m.funcs[j]!).b.length) (s : List Int), (shapesV m j)[k]? = some (false, s) → pIs ((m.funcs[j]!).b[k]).op = true → k + 1 < (m.funcs[j]!).b.length → ∃ many, many.length ≤ 4000 ∧ s = many ++ pIn ((m.funcs[j]!).b[k]).op ∧ (shapesV m j)[k + 1]? = some (false, many ++ pOut ((m.funcs[j]!).b[k]).op) := by
 obtain ⟨h1, h2⟩ := mod_zero hz
 have hc := (head_zero h1).1
 have sm := mod_small hm hc
 have hmem : m.funcs[j]! ∈ m.funcs := by rw [getElem!_pos m.funcs j hj]; exact List.getElem_mem hj
 have hn := (sm.2 _ hmem).1
 have hr10 : ∀ d ∈ m.types, d.r.xs.length ≤ 10 := fun d hd => by
  have := (hm.types.all d hd).2.len
  have := (sm.1 d hd).2
  omega
 have hrun := h2 j hj
 unfold firstV at hrun
 have I0 := RunI.first (m := m) (loc := (m.types[(m.funcs[j]!).t.toNat]!).i.xs ++ (m.funcs[j]!).l.xs) (ks := (m.types[(m.funcs[j]!).t.toNat]!).r.xs) hn (bang_len hr10 _)
 have hk := kinds_nz hc (m.funcs[j]!).t.toNat j hj
 have z0 : TrkV.zed ⟨[], [⟨2, (m.types[(m.funcs[j]!).t.toNat]!).r.xs, 0, false⟩], false⟩ := by
  refine ⟨fun i hi => ?_, fun b hb => ?_⟩
  ·cases hi
  ·obtain rfl : b = ⟨2, (m.types[(m.funcs[j]!).t.toNat]!).r.xs, 0, false⟩ := by simpa using hb
   exact bang_nz hk.ty _
 refine ⟨by rw [shapes_at m j 0 hb]; rfl, fun k hkl s hs hp hk1 => ?_⟩
 rw [shapes_at m j k hkl] at hs
 rw [shapes_at m j (k + 1) hk1, List.take_succ_eq_append_getElem hkl, stV_snoc]
 have ia := RunI.at hr10 I0 hrun k (by omega)
 have iz := RunI.zed hr10 hk I0 hrun z0 k (by omega)
 obtain ⟨_, pre, b, ho, _⟩ := ia.here hkl
 obtain ⟨hd, hst⟩ := shp_alive (Option.some.inj hs)
 revert ia iz ho hd hst
 generalize stV m ((m.types[(m.funcs[j]!).t.toNat]!).i.xs ++ (m.funcs[j]!).l.xs) ((m.funcs[j]!).b.take k) ⟨[], [⟨2, (m.types[(m.funcs[j]!).t.toNat]!).r.xs, 0, false⟩], false⟩ = T
 intro ia iz ho hd hst
 obtain ⟨st, ops, bad⟩ := T
 dsimp only at ho hd hst
 subst ho hst
 have hbad : bad = false := ia.bad
 subst hbad
 rw [nextV_eq]
 have hE : (stepV m ((m.types[(m.funcs[j]!).t.toNat]!).i.xs ++ (m.funcs[j]!).l.xs) st pre b false ((m.funcs[j]!).b[k]).op ((m.funcs[j]!).b[k]).A ((m.funcs[j]!).b[k]).xs).1 = 0 := by
  by_cases hE : (stepV m ((m.types[(m.funcs[j]!).t.toNat]!).i.xs ++ (m.funcs[j]!).l.xs) st pre b false ((m.funcs[j]!).b[k]).op ((m.funcs[j]!).b[k]).A ((m.funcs[j]!).b[k]).xs).1 = 0
  ·exact hE
  ·have := ia.stop hkl hE
   rw [this] at hrun
   exact absurd hrun hE
 obtain ⟨many, e1, e2, e3⟩ := plain_step hp iz hd hE
 have hlen : st.length ≤ 20 * k := ia.ok.len
 have hl2 := RunI.len hn
 have hl3 := congrArg List.length e1
 rw [List.length_append] at hl3
 refine ⟨many, by omega, e1, ?_⟩
 unfold shpV
 rw [e2, e3, hd]
 rfl
end Go.Proofs.YtoikoijpkchamaaGreatDoor
namespace Go.Proofs.YtoikoijpkchamaaGreatDoor
open Go.RowKit
set_option linter.unusedVariables false
theorem wp_append_two {P : Program} {w : World} {o : Oper} {a : Act} {K : Act → World → Prop} {Q : Exit → Act → World → Prop} (s x : Operand) (t : TypeId)
  (ho : o.op = .call { callee := .builtin .append, args := #[s, x], argTypes := #[t, t] })
  (base base2 : Nat) (e : TypeId) (i : TypeInfo) (z : Value) (size bytes : Nat) (ht : P.underlying t = some (.slice e)) (hi : P.info? e = some i) (hz : i.zero = some z)
  (hsize : i.size = size) (hby : i.bytes = bytes) (hzs : z.cells.size = size) (hsz : 0 < size)
  (v : Value) (n : Nat) (xs : List Value) (hs : a.eval s = v) (hown : w.ownsRow base e size v n xs)
  (v2 : Value) (m : Nat) (news : List Value) (hx : a.eval x = v2) (h2 : w.ownsRow base2 e size v2 m news) (h1 : ∀ u ∈ news, u.oneCell' = true)
  (h63 : n + m ≤ maxLen) (hbytes : (n + m) * bytes ≤ 140737488355328) (hbase : base ≤ w.heap.size)
  (h : ∀ v' w', w'.ownsRow base e size v' (n + m) (xs ++ news) → Below base w w' → K (a.put o.dst v') w') : o.wp P a w K Q := by
 rcases h2.2 with ⟨rfl, rfl⟩ | ⟨g, cap, cur, rfl, hb, hg, hc, _, hcs, htk⟩
 ·have hn : news = [] := List.length_eq_zero_iff.1 (by rw [h2.1]; simp)
  subst hn
  have hrun := run_append_owned_none (P := P) (w := w) base t o.type e i size ht hi v n xs hown
  unfold Oper.wp
  simp [execOp, ho, resolve, invoke, builtin, hs, hx, hrun, Result.andThen]
  exact h v w (by simpa using hown) (Below.refl _ _)
 ·obtain ⟨v', w', hr, h3, h4, _, _⟩ := run_append_own_at (P := P) w base t o.type e i z size bytes ht hi hz hsize hby hzs hsz v n xs hown ⟨g, 0, none⟩ m cap news h2.1 (fun j u hu => by
   have hj : j < m * size := by rw [← h2.1]; exact (List.getElem?_eq_some_iff.1 hu).1
   rw [show (⟨g, 0, none⟩ : Addr).add j = ⟨g, j, none⟩ from by unfold Addr.add; split <;> simp_all]
   rw [h2.cellAt j hj]
   exact hu) h1 h63 hbytes hbase
  unfold Oper.wp execOp
  simp only [ho, resolve, invoke, builtin, Sem.run_bind, Sem.run_pure, Result.andThen_ok, List.map_toArray, List.map_cons, List.map_nil, hs, hx, hr]
  exact h v' w' h3 ((Below.refl _ _).grown h4 hbase (fun i hi => own_base hown hi))
theorem steps_no (m : ModD) (at' k' : Int) (w : World) (HA : Hid (Amb w)) (HG : Hid (2 < w.heap.size))
  (HSO : Hid (∀ W, Below w.heap.size w W → Calls Tryz.prog 23 #[.agg #[.slice m.oT m.types.length m.cT, .slice m.oI m.imports.length m.cI, .slice m.oF m.funcs.length m.cF, .int .i64 m.table, .int .i64 m.pages, .int .i64 m.most, .slice m.oG m.globals.length m.cG, .slice m.oE m.exports.length m.cE, .int .i64 m.start, .slice m.oL m.elems.length m.cL, .slice m.oD m.data.length m.cD], .int .i64 at', .int .i64 k'] W fun r w' => r = .returned (.tuple #[.int .i64 0, .int .i64 0, .bool false]) ∧ Below W.heap.size W w')) :
  Calls Tryz.prog 6 #[.agg #[.slice m.oT m.types.length m.cT, .slice m.oI m.imports.length m.cI, .slice m.oF m.funcs.length m.cF, .int .i64 m.table, .int .i64 m.pages, .int .i64 m.most, .slice m.oG m.globals.length m.cG, .slice m.oE m.exports.length m.cE, .int .i64 m.start, .slice m.oL m.elems.length m.cL, .slice m.oD m.data.length m.cD], .int .i64 at', .int .i64 k'] w fun r w' => r = .returned (.bool true) ∧ Below w.heap.size w w' := by
 have hb1 : Below w.heap.size w (w.alloc (.cells #[.slice m.oT m.types.length m.cT, .slice m.oI m.imports.length m.cI, .slice m.oF m.funcs.length m.cF, .int .i64 m.table, .int .i64 m.pages, .int .i64 m.most, .slice m.oG m.globals.length m.cG, .slice m.oE m.exports.length m.cE, .int .i64 m.start, .slice m.oL m.elems.length m.cL, .slice m.oD m.data.length m.cD] 30)) := (Below.refl _ _).alloc (Nat.le_refl _) _
 have HB1 : Hid (type_of% hb1) := hb1
 have HS : Hid (∀ w', Below (w.alloc (.cells #[.slice m.oT m.types.length m.cT, .slice m.oI m.imports.length m.cI, .slice m.oF m.funcs.length m.cF, .int .i64 m.table, .int .i64 m.pages, .int .i64 m.most, .slice m.oG m.globals.length m.cG, .slice m.oE m.exports.length m.cE, .int .i64 m.start, .slice m.oL m.elems.length m.cL, .slice m.oD m.data.length m.cD] 30)).heap.size (w.alloc (.cells #[.slice m.oT m.types.length m.cT, .slice m.oI m.imports.length m.cI, .slice m.oF m.funcs.length m.cF, .int .i64 m.table, .int .i64 m.pages, .int .i64 m.most, .slice m.oG m.globals.length m.cG, .slice m.oE m.exports.length m.cE, .int .i64 m.start, .slice m.oL m.elems.length m.cL, .slice m.oD m.data.length m.cD] 30)) w' → w'.cell? ⟨w.heap.size, 0, none⟩ = some (.slice m.oT m.types.length m.cT) ∧ w'.cell? ⟨w.heap.size, 1, none⟩ = some (.slice m.oI m.imports.length m.cI) ∧ w'.cell? ⟨w.heap.size, 2, none⟩ = some (.slice m.oF m.funcs.length m.cF) ∧ w'.cell? ⟨w.heap.size, 3, none⟩ = some (.int .i64 m.table) ∧ w'.cell? ⟨w.heap.size, 4, none⟩ = some (.int .i64 m.pages) ∧ w'.cell? ⟨w.heap.size, 5, none⟩ = some (.int .i64 m.most) ∧ w'.cell? ⟨w.heap.size, 6, none⟩ = some (.slice m.oG m.globals.length m.cG) ∧ w'.cell? ⟨w.heap.size, 7, none⟩ = some (.slice m.oE m.exports.length m.cE) ∧ w'.cell? ⟨w.heap.size, 8, none⟩ = some (.int .i64 m.start) ∧ w'.cell? ⟨w.heap.size, 9, none⟩ = some (.slice m.oL m.elems.length m.cL) ∧ w'.cell? ⟨w.heap.size, 10, none⟩ = some (.slice m.oD m.data.length m.cD)) := fun w' bz => by
  have a1 := (bz.block w.heap.size (by simp)).trans (new_block w (.cells #[.slice m.oT m.types.length m.cT, .slice m.oI m.imports.length m.cI, .slice m.oF m.funcs.length m.cF, .int .i64 m.table, .int .i64 m.pages, .int .i64 m.most, .slice m.oG m.globals.length m.cG, .slice m.oE m.exports.length m.cE, .int .i64 m.start, .slice m.oL m.elems.length m.cL, .slice m.oD m.data.length m.cD] 30))
  exact ⟨cell_at a1 0 rfl, cell_at a1 1 rfl, cell_at a1 2 rfl, cell_at a1 3 rfl, cell_at a1 4 rfl, cell_at a1 5 rfl, cell_at a1 6 rfl, cell_at a1 7 rfl, cell_at a1 8 rfl, cell_at a1 9 rfl, cell_at a1 10 rfl⟩
 obtain ⟨f0, f1, f2, f3, f4, f5, f6, f7, f8, f9, f10⟩ := HS.out _ (Below.refl _ _)
 clear hb1
 go_enter Tryz.func6, Tryz.ntmps6
 go_wp2_with fail
 refine (HSO.out _ HB1.out).mono ?_
 rintro r w1 ⟨rfl, b1⟩
 have HB3 : Hid (Below w.heap.size w w1) := HB1.out.trans (b1.mono (by simp))
 clear b1 HSO f0 f1 f2 f3 f4 f5 f6 f7 f8 f9 f10
 have HRF : Hid (type_of% (vrefused w1 (HA.out.to (HB3.out.mono (by have := HA.out.2.2; omega))) (Nat.lt_of_lt_of_le HG.out HB3.out.size))) := vrefused w1 (HA.out.to (HB3.out.mono (by have := HA.out.2.2; omega))) (Nat.lt_of_lt_of_le HG.out HB3.out.size)
 go_wp2_with fail
 refine HRF.out.mono ?_
 rintro r w2 ⟨rfl, b2⟩
 have HB5 : Hid (Below w.heap.size w w2) := HB3.out.trans (b2.mono HB3.out.size)
 clear b2 HB3 HRF
 go_wp2
 go_ret
 exact ⟨rfl, HB5.out⟩
theorem shapes_here (m : ModD) (j : Nat) (w : World) (hA : Amb w) (hm : m.ok w) (hg : 2 < w.heap.size) (hz : modE m = 0) (hj : j < m.funcs.length) (hb : 0 < (m.funcs[j]!).b.length) :
  Calls Tryz.prog 19 #[.agg #[.slice m.oT m.types.length m.cT, .slice m.oI m.imports.length m.cI, .slice m.oF m.funcs.length m.cF, .int .i64 m.table, .int .i64 m.pages, .int .i64 m.most, .slice m.oG m.globals.length m.cG, .slice m.oE m.exports.length m.cE, .int .i64 m.start, .slice m.oL m.elems.length m.cL, .slice m.oD m.data.length m.cD], .int .i64 (j : Int)] w fun r w' => ∃ (g cs : Nat) (D : List ShpD), r = .returned (.tuple #[.slice (some ⟨g, 0, none⟩) (m.funcs[j]!).b.length cs, .int .i64 0]) ∧ D.map ShpD.val = shapesV m j ∧ w.heap.size ≤ g ∧ g < w'.heap.size ∧ (∀ i (h : i < D.length), w'.cell? ⟨g, i * 2, none⟩ = some (.bool (D[i]).dead) ∧ w'.cell? ⟨g, i * 2 + 1, none⟩ = some (.slice (D[i]).k.o (D[i]).k.n (D[i]).k.cap)) ∧ (∀ d ∈ D, d.k.ok .u8 w') ∧ Below w.heap.size w w' := by
 refine (vshapes m (j : Int) w hA hm hg).mono ?_
 rintro r w' ⟨b, h0, _⟩
 obtain ⟨h1, h2⟩ := mod_zero hz
 have hf : funV m (j : Int) = firstV m j := by
  unfold funV hasE
  rw [if_pos (by rw [if_pos h1, if_pos ⟨by omega, by omega⟩]), Int.toNat_natCast]
 obtain ⟨os, cs, D, rfl, hD, hown, hok⟩ := h0 (by rw [hf]; exact h2 j hj)
 rw [Int.toNat_natCast] at hD
 have hl : D.length = (m.funcs[j]!).b.length := by rw [← shapes_len m j, ← hD, List.length_map]
 obtain ⟨g, c, hv, hb1, hb2⟩ := hown.form (by omega)
 simp only [Value.slice.injEq, true_and] at hv
 obtain ⟨rfl, rfl⟩ := hv
 refine ⟨g, cs, D, by rw [hl], hD, hb1, hb2, fun i hi => ?_, hok, b⟩
 have c0 := hown.cellAt (i * 2) (by omega)
 have c1 := hown.cellAt (i * 2 + 1) (by omega)
 have a0 := flat_at ShpD.cells 2 (fun _ => rfl) D i 0 hi (by omega)
 have a1 := flat_at ShpD.cells 2 (fun _ => rfl) D i 1 hi (by omega)
 exact ⟨c0.trans a0, c1.trans a1⟩
end Go.Proofs.YtoikoijpkchamaaGreatDoor
