/-
  The reader of modules: lists of whatever parts.
-/
import Derived.Test.YtakpkdckajjooaaGreatDoorPQX
import Derived.Deep.AppendLies
set_option maxHeartbeats 4000000
set_option maxRecDepth 1000000
namespace Go.Proofs.YtakpkdckajjooaaGreatDoor
set_option linter.unusedVariables false
open Go.RowKit
def far (T : TypeId) (t : TypeId) : Bool := t != T && t != 79
def SigG (w : World) (d : SigD) : Prop := NumG .u8 61 w d.i ∧ NumG .u8 61 w d.r
def EleG (w : World) (d : EleD) : Prop := inI d.a ∧ NumG .i64 3 w d.f
def FunG (w : World) (d : FunD) : Prop := inI d.t ∧ NumG .u8 61 w d.l ∧ ∃ B, IR w B d.o d.b.length d.cap d.b
theorem IR.kp {w w' : World} {B k cap : Nat} {o : Option Addr} {L : List InsD} {S : TypeId → Bool} (h : IR w B o k cap L) (q : Kp S w w') (h2 : S 2 = true) (h3 : S 161 = true) : IR w' B o k cap L :=
  h.keep q.size (fun j cur f hj => q.blk j cur 2 f hj h2) (fun j cur f hj => q.blk j cur _ f hj h3)
theorem SigG.kp {w w' : World} {d : SigD} {S : TypeId → Bool} (h : SigG w d) (q : Kp S w w') (hS : S 61 = true) : SigG w' d := ⟨h.1.kp q hS, h.2.kp q hS⟩
theorem EleG.kp {w w' : World} {d : EleD} {S : TypeId → Bool} (h : EleG w d) (q : Kp S w w') (hS : S 3 = true) : EleG w' d := ⟨h.1, h.2.kp q hS⟩
theorem FunG.kp {w w' : World} {d : FunD} {S : TypeId → Bool} (h : FunG w d) (q : Kp S w w') (h1 : S 61 = true) (h2 : S 2 = true) (h3 : S 161 = true) : FunG w' d := ⟨h.1, h.2.1.kp q h1, let ⟨B, hI⟩ := h.2.2; ⟨B, hI.kp q h2 h3⟩⟩
theorem Kp.reader {w w' : World} {P : Nat} {l : List Int} (h : BR w P l) (c : Chg P w w') (S : TypeId → Bool) (hS : S 79 = false) : Kp S w w' := by
  obtain ⟨s, _, _, h⟩ := h
  exact Kp.chg h c S hS
theorem BR.kp {w w' : World} {P : Nat} {l : List Int} {S : TypeId → Bool} (h : BR w P l) (q : Kp S w w') (hS : S 79 = true) : BR w' P l := by
  obtain ⟨s, h1, h2, h⟩ := h
  refine ⟨s, h1, h2, ?_⟩
  unfold BS at h ⊢
  rw [q.blk _ _ _ _ h hS]
  exact h
theorem Chg.grown2 {w w1 w2 : World} {P B n k cap : Nat} {o : Option Addr} {T : TypeId} {xs : List Value} (c : Chg P w w1) (h : w1.ownsRow B T k (.slice o n cap) n xs) (g : w1.grownBy w2 (Value.slice o n cap).ownBlock) (hB : w.heap.size ≤ B) : Chg P w w2 :=
  ⟨g.os.trans c.os, g.tape.trans c.tape, g.output.trans c.output, Nat.le_trans c.size g.size, fun j hj hP => by
    rw [g.block j (Nat.lt_of_lt_of_le hj c.size) (fun e => by
      rcases h.2 with ⟨h1, _⟩ | ⟨b, cc, cu, h1, h2, _⟩
      · rw [h1] at e
        simp [Value.ownBlock] at e
      · rw [h1] at e
        simp only [Value.ownBlock, Option.some.injEq] at e
        omega)]
    exact c.block j hj hP⟩
def vList {D α : Type} (N : Nat) (t : TypeId) (k : Nat) (cs : D → List Value) (ok : World → D → Prop) (val : D → α) (a : List α) (w : World) (v : Value) : Prop :=
  ∃ (o : Option Addr) (cap : Nat) (L : List D), v = .slice o L.length cap ∧ L.map val = a ∧ LR w N t k cs ok o L.length cap L
theorem rTimes_err {α : Type} {p : Rd α} {n : Nat} {acc : List α} {l : List Int} {e : Int} (hn : 0 < n) (h : p l = .error e) : rTimes p n acc l = .error e := by
  obtain ⟨m, rfl⟩ : ∃ m, n = m + 1 := ⟨n - 1, by omega⟩
  rw [rTimes]
  dsimp only
  rw [h]
theorem rTimes_got {α : Type} {p : Rd α} {n : Nat} {acc : List α} {l r : List Int} {a : α} (hn : 0 < n) (h : p l = .ok (a, r)) : rTimes p n acc l = rTimes p (n - 1) (acc ++ [a]) r := by
  obtain ⟨m, rfl⟩ : ∃ m, n = m + 1 := ⟨n - 1, by omega⟩
  rw [rTimes]
  dsimp only
  rw [h]
  rfl
theorem below_chg {N P : Nat} {w0 w w' : World} (b : Below N w0 w) (c : Chg P w w') (hNP : N ≤ P) (hNw : N ≤ w.heap.size) : Below N w0 w' := b.trans (c.below hNP hNw)
theorem Tryz.infoLsig : (Tryz.prog.info? 50).map (fun i => (i.zero, i.size, i.bytes)) = some (some (.agg #[.slice none 0 0, .slice none 0 0]), 2, 48) := by kernel_rfl
theorem blist_sig {α : Type} (P N : Nat) (most : Int) (hmost : most ≤ 16) (p : Rd α) (val : SigD → α) (w0 w : World) (l : List Int) (h : BR w P l) (hb : Below N w0 w) (hNP : N ≤ P) (hNw : N ≤ w.heap.size)
    (HONE : Hid (∀ l' w', BR w' P l' → Below N w0 w' → N ≤ w'.heap.size → Calls Tryz.prog 145 #[.pointer (some ⟨P, 0, none⟩)] w' (Out P (fun a w v => ∃ d : SigD, v = .agg #[.slice d.i.o d.i.n d.i.cap, .slice d.r.o d.r.n d.r.cap] ∧ val d = a ∧ SigG w d) (p l') w'))) :
    Calls Tryz.prog 144 #[.pointer (some ⟨P, 0, none⟩), .int .i64 most, .func (.func 145) #[.pointer (some ⟨P, 0, none⟩)] #[]] w (Out P (vList N 50 2 SigD.cells SigG val) (rList most p l) w) := by
  obtain ⟨i0, hi, hz0, hz1, hz2⟩ := info_parts Tryz.infoLsig
  have HC : Hid (type_of% (bcount P most l w h)) := bcount P most l w h
  have HBY : Hid (Bts l) := h.byte
  have HBW : Hid (Below N w0 w) := hb
  clear h hb
  go_enter Tryz.func144, Tryz.ntmps144
  go_wp2_with fail
  refine HC.out.mono ?_
  clear HC
  intro r w1 ho
  cases hx : rCount most l with
  | error x =>
    obtain ⟨c, rfl⟩ := ho.err hx
    exact ⟨rfl, Out.mkE (nxt_err hx) c⟩
  | ok q =>
    obtain ⟨n, l1⟩ := q
    obtain ⟨c, ⟨v, rfl, rfl⟩, hb1⟩ := ho.got hx
    obtain ⟨hn, _, _⟩ := (cod_count most (by omega)).ok _ _ _ HBY.out hx
    have HX : Hid (rList most p l = rTimes p n.toNat [] l1) := nxt_of hx
    obtain ⟨m, rfl⟩ : ∃ m : Nat, n = (m : Int) := ⟨n.toNat, by omega⟩
    rw [Int.toNat_natCast] at HX
    have hm : m ≤ 16 := by omega
    have HB1 : Hid (BR w1 P l1) := hb1
    have HC1 : Hid (Chg P w w1) := c
    have hs1 := c.size
    clear hx ho hb1 c hn HBY
    go_wp2
    go_loopw [7, 11] (fun ls iv wr => ∃ i cap : Nat, ∃ o : Option Addr, ∃ L : List SigD, ∃ li : List Int, ls = .slice o i cap ∧ iv = .int .i64 (i : Int) ∧ i ≤ m ∧ Hid (LR wr w.heap.size 50 2 SigD.cells SigG o i cap L) ∧ Hid (BR wr P li) ∧ Hid (rTimes p m [] l1 = rTimes p (m - i) (L.map val) li) ∧ Hid (Chg P w wr)) (fun _ iv _ => m - (intOf iv).toNat)
    case atStart => exact ⟨0, 0, none, [], l1, rfl, rfl, by omega, LR.nil _ _ _ _ _ _, HB1, rfl, HC1⟩
    case round =>
      obtain ⟨i, cap, o, L, li, rfl, rfl, him, HL, HB, HT, HW⟩ := hrel
      clear HB1 HC1 hs1
      have hsr := HW.out.size
      by_cases hlt : i < m
      · have hcl := (HL.out.capm).1
        have hcm := (HL.out.capm).2
        unfold maxLen at hcm
        go_wp2_with fail
        refine (HONE.out li _ HB.out (below_chg HBW.out HW.out hNP hNw) (by omega)).mono ?_
        intro r w2 ho
        cases hx : p li with
        | error x =>
          obtain ⟨c, rfl⟩ := ho.err hx
          exact ⟨rfl, Out.mkE (HX.out.trans (HT.out.trans (rTimes_err (by omega) hx))) (HW.out.trans c)⟩
        | ok q =>
        obtain ⟨a, l2⟩ := q
        obtain ⟨c, ⟨v, rfl, d, hvd, hva, hok⟩, hb2⟩ := ho.got hx
        have HT2 : Hid (rTimes p m [] l1 = rTimes p (m - i - 1) (L.map val ++ [a]) l2) := HT.out.trans (rTimes_got (by omega) hx)
        have q : Kp (far 50) wr w2 := Kp.reader HB.out c _ (by decide)
        have HL2 : Hid (LR w2 w.heap.size 50 2 SigD.cells SigG o i cap L) := by
          have q1 : Kp (fun t => t != 79) wr w2 := Kp.reader HB.out c _ (by decide)
          exact HL.out.kp q1 (by decide) (fun d hd => hd.kp q (by decide))
        have HB2 : Hid (BR w2 P l2) := hb2
        have HW2 : Hid (Chg P w w2) := HW.out.trans c
        have hs2 := c.size
        obtain ⟨d0, hd0⟩ : ∃ d0, d0 = d := ⟨_, rfl⟩
        have HD : Hid (val d0 = a ∧ SigG w2 d0) := by rw [hd0]; exact ⟨hva, hok⟩
        obtain ⟨⟨o1, n1, c1, x1⟩, ⟨o2, n2, c2, x2⟩⟩ := d
        have HDC : Hid (SigD.cells d0 = [.slice o1 n1 c1, .slice o2 n2 c2]) := by rw [hd0]; rfl
        clear hd0 hva hok
        dsimp only at hvd
        subst hvd
        clear q c hb2 ho hx HL HB HW HT
        have bA : Below w2.heap.size w2 (w2.alloc (.cells #[.slice o1 n1 c1, .slice o2 n2 c2] 50)) := (Below.refl _ _).alloc (Nat.le_refl _) _
        have HBA : Hid (type_of% bA) := bA
        clear bA
        go_wp2_with (at_builtin; refine wpList_append_lies _ rfl _ _ 22 rfl w.heap.size 50 i0 (.agg #[.slice none 0 0, .slice none 0 0]) 2 48 Tryz.underlying22 hi hz0 hz1 hz2 rfl (by omega) _ i (L.flatMap SigD.cells) rfl (HL2.out.own.alloc _) ⟨w2.heap.size, 0, none⟩ 1 1 [.slice o1 n1 c1, .slice o2 n2 c2] rfl rfl (World.news_of_block (cs := #[.slice o1 n1 c1, .slice o2 n2 c2]) (t := 50) (fr := (0, 0)) (heap_alloc_new w2 _)) (by simp [Value.oneCell']) (by omega) (by unfold maxLen; omega) (by omega) (by simp; omega) (w2.heap.size + 1) (by simp) ?_)
        intro g capg w3 hown hgrow hat hlt3
        have qA : Kp (far 50) w2 w3 := (Kp.below _ HBA.out).trans (Kp.grown (HL2.out.own.alloc _) hgrow _ (by decide))
        have qB : Kp (fun t => t != 50) w2 w3 := (Kp.below _ HBA.out).trans (Kp.grown (HL2.out.own.alloc _) hgrow _ (by decide))
        have HL3 : Hid (LR w3 w.heap.size 50 2 SigD.cells SigG (some ⟨g, 0, none⟩) (i + 1) capg (L ++ [d0])) := by
          have q := qA
          exact HL2.out.app (fun d hd => hd.kp q (by decide)) HD.out.2 (by rw [HDC.out]; exact hown)
        have HB3 : Hid (BR w3 P l2) := HB2.out.kp qB (by decide)
        have HW3 : Hid (Chg P w w3) := Chg.grown2 (HW2.out.trans (Chg.of_below HBA.out)) (HL2.out.own.alloc _) hgrow (Nat.le_refl _)
        have HT3 : Hid (rTimes p m [] l1 = rTimes p (m - (i + 1)) ((L ++ [d0]).map val) l2) := by
          unfold Hid
          rw [List.map_append, show m - (i + 1) = m - i - 1 by omega, HT2.out, show [d0].map val = [a] by rw [← HD.out.1]; rfl]
        clear hown hgrow hat hlt3 qA qB HL2 HB2 HW2 HD HDC HBA HT2
        go_wp2
        go_roundw
        case rel => exact ⟨i + 1, capg, _, L ++ [d0], l2, rfl, by go_num, by omega, HL3, HB3, HT3, HW3⟩
        case measure => simp [intOf]; omega
      · go_wp2
        go_ret
        have e : m - i = 0 := by omega
        have hT := HX.out.trans HT.out
        rw [e, rTimes] at hT
        have hl := HL.out.len
        subst hl
        exact Out.mkO hT HW.out ⟨o, cap, L, rfl, rfl, ⟨ownsRow_down HL.out.own hNw, HL.out.len, HL.out.ok⟩⟩ HB.out
theorem Tryz.infoLimp : (Tryz.prog.info? 53).map (fun i => (i.zero, i.size, i.bytes)) = some (some (.agg #[.string ⟨#[]⟩, .int .i64 0]), 2, 24) := by kernel_rfl
theorem blist_imp {α : Type} (P N : Nat) (most : Int) (hmost : most ≤ 16) (p : Rd α) (val : NamD → α) (w0 w : World) (l : List Int) (h : BR w P l) (hb : Below N w0 w) (hNP : N ≤ P) (hNw : N ≤ w.heap.size)
    (HONE : Hid (∀ l' w', BR w' P l' → Below N w0 w' → N ≤ w'.heap.size → Calls Tryz.prog 147 #[.pointer (some ⟨P, 0, none⟩)] w' (Out P (fun a w v => ∃ d : NamD, v = .agg #[.string d.s, .int .i64 d.n] ∧ val d = a ∧ NamD.ok w d) (p l') w'))) :
    Calls Tryz.prog 146 #[.pointer (some ⟨P, 0, none⟩), .int .i64 most, .func (.func 147) #[.pointer (some ⟨P, 0, none⟩)] #[]] w (Out P (vList N 53 2 NamD.cells NamD.ok val) (rList most p l) w) := by
  obtain ⟨i0, hi, hz0, hz1, hz2⟩ := info_parts Tryz.infoLimp
  have HC : Hid (type_of% (bcount P most l w h)) := bcount P most l w h
  have HBY : Hid (Bts l) := h.byte
  have HBW : Hid (Below N w0 w) := hb
  clear h hb
  go_enter Tryz.func146, Tryz.ntmps146
  go_wp2_with fail
  refine HC.out.mono ?_
  clear HC
  intro r w1 ho
  cases hx : rCount most l with
  | error x =>
    obtain ⟨c, rfl⟩ := ho.err hx
    exact ⟨rfl, Out.mkE (nxt_err hx) c⟩
  | ok q =>
    obtain ⟨n, l1⟩ := q
    obtain ⟨c, ⟨v, rfl, rfl⟩, hb1⟩ := ho.got hx
    obtain ⟨hn, _, _⟩ := (cod_count most (by omega)).ok _ _ _ HBY.out hx
    have HX : Hid (rList most p l = rTimes p n.toNat [] l1) := nxt_of hx
    obtain ⟨m, rfl⟩ : ∃ m : Nat, n = (m : Int) := ⟨n.toNat, by omega⟩
    rw [Int.toNat_natCast] at HX
    have hm : m ≤ 16 := by omega
    have HB1 : Hid (BR w1 P l1) := hb1
    have HC1 : Hid (Chg P w w1) := c
    have hs1 := c.size
    clear hx ho hb1 c hn HBY
    go_wp2
    go_loopw [7, 11] (fun ls iv wr => ∃ i cap : Nat, ∃ o : Option Addr, ∃ L : List NamD, ∃ li : List Int, ls = .slice o i cap ∧ iv = .int .i64 (i : Int) ∧ i ≤ m ∧ Hid (LR wr w.heap.size 53 2 NamD.cells NamD.ok o i cap L) ∧ Hid (BR wr P li) ∧ Hid (rTimes p m [] l1 = rTimes p (m - i) (L.map val) li) ∧ Hid (Chg P w wr)) (fun _ iv _ => m - (intOf iv).toNat)
    case atStart => exact ⟨0, 0, none, [], l1, rfl, rfl, by omega, LR.nil _ _ _ _ _ _, HB1, rfl, HC1⟩
    case round =>
      obtain ⟨i, cap, o, L, li, rfl, rfl, him, HL, HB, HT, HW⟩ := hrel
      clear HB1 HC1 hs1
      have hsr := HW.out.size
      by_cases hlt : i < m
      · have hcl := (HL.out.capm).1
        have hcm := (HL.out.capm).2
        unfold maxLen at hcm
        go_wp2_with fail
        refine (HONE.out li _ HB.out (below_chg HBW.out HW.out hNP hNw) (by omega)).mono ?_
        intro r w2 ho
        cases hx : p li with
        | error x =>
          obtain ⟨c, rfl⟩ := ho.err hx
          exact ⟨rfl, Out.mkE (HX.out.trans (HT.out.trans (rTimes_err (by omega) hx))) (HW.out.trans c)⟩
        | ok q =>
        obtain ⟨a, l2⟩ := q
        obtain ⟨c, ⟨v, rfl, d, hvd, hva, hok⟩, hb2⟩ := ho.got hx
        have HT2 : Hid (rTimes p m [] l1 = rTimes p (m - i - 1) (L.map val ++ [a]) l2) := HT.out.trans (rTimes_got (by omega) hx)
        have q : Kp (far 53) wr w2 := Kp.reader HB.out c _ (by decide)
        have HL2 : Hid (LR w2 w.heap.size 53 2 NamD.cells NamD.ok o i cap L) := by
          have q1 : Kp (fun t => t != 79) wr w2 := Kp.reader HB.out c _ (by decide)
          exact HL.out.kp q1 (by decide) (fun _ hd => hd)
        have HB2 : Hid (BR w2 P l2) := hb2
        have HW2 : Hid (Chg P w w2) := HW.out.trans c
        have hs2 := c.size
        obtain ⟨d0, hd0⟩ : ∃ d0, d0 = d := ⟨_, rfl⟩
        have HD : Hid (val d0 = a ∧ NamD.ok w2 d0) := by rw [hd0]; exact ⟨hva, hok⟩
        obtain ⟨s1, n1⟩ := d
        have HDC : Hid (NamD.cells d0 = [.string s1, .int .i64 n1]) := by rw [hd0]; rfl
        clear hd0 hva hok
        dsimp only at hvd
        subst hvd
        clear q c hb2 ho hx HL HB HW HT
        have bA : Below w2.heap.size w2 (w2.alloc (.cells #[.string s1, .int .i64 n1] 53)) := (Below.refl _ _).alloc (Nat.le_refl _) _
        have HBA : Hid (type_of% bA) := bA
        clear bA
        go_wp2_with (at_builtin; refine wpList_append_lies _ rfl _ _ 23 rfl w.heap.size 53 i0 (.agg #[.string ⟨#[]⟩, .int .i64 0]) 2 24 Tryz.underlying23 hi hz0 hz1 hz2 rfl (by omega) _ i (L.flatMap NamD.cells) rfl (HL2.out.own.alloc _) ⟨w2.heap.size, 0, none⟩ 1 1 [.string s1, .int .i64 n1] rfl rfl (World.news_of_block (cs := #[.string s1, .int .i64 n1]) (t := 53) (fr := (0, 0)) (heap_alloc_new w2 _)) (by simp [Value.oneCell']) (by omega) (by unfold maxLen; omega) (by omega) (by simp; omega) (w2.heap.size + 1) (by simp) ?_)
        intro g capg w3 hown hgrow hat hlt3
        have qA : Kp (far 53) w2 w3 := (Kp.below _ HBA.out).trans (Kp.grown (HL2.out.own.alloc _) hgrow _ (by decide))
        have qB : Kp (fun t => t != 53) w2 w3 := (Kp.below _ HBA.out).trans (Kp.grown (HL2.out.own.alloc _) hgrow _ (by decide))
        have HL3 : Hid (LR w3 w.heap.size 53 2 NamD.cells NamD.ok (some ⟨g, 0, none⟩) (i + 1) capg (L ++ [d0])) := by
          have q := qA
          exact HL2.out.app (fun _ hd => hd) HD.out.2 (by rw [HDC.out]; exact hown)
        have HB3 : Hid (BR w3 P l2) := HB2.out.kp qB (by decide)
        have HW3 : Hid (Chg P w w3) := Chg.grown2 (HW2.out.trans (Chg.of_below HBA.out)) (HL2.out.own.alloc _) hgrow (Nat.le_refl _)
        have HT3 : Hid (rTimes p m [] l1 = rTimes p (m - (i + 1)) ((L ++ [d0]).map val) l2) := by
          unfold Hid
          rw [List.map_append, show m - (i + 1) = m - i - 1 by omega, HT2.out, show [d0].map val = [a] by rw [← HD.out.1]; rfl]
        clear hown hgrow hat hlt3 qA qB HL2 HB2 HW2 HD HDC HBA HT2
        go_wp2
        go_roundw
        case rel => exact ⟨i + 1, capg, _, L ++ [d0], l2, rfl, by go_num, by omega, HL3, HB3, HT3, HW3⟩
        case measure => simp [intOf]; omega
      · go_wp2
        go_ret
        have e : m - i = 0 := by omega
        have hT := HX.out.trans HT.out
        rw [e, rTimes] at hT
        have hl := HL.out.len
        subst hl
        exact Out.mkO hT HW.out ⟨o, cap, L, rfl, rfl, ⟨ownsRow_down HL.out.own hNw, HL.out.len, HL.out.ok⟩⟩ HB.out
theorem Tryz.infoLglo : (Tryz.prog.info? 63).map (fun i => (i.zero, i.size, i.bytes)) = some (some (.agg #[.int .u8 0, .bool false, .int .i64 0]), 3, 16) := by kernel_rfl
theorem blist_glo {α : Type} (P N : Nat) (most : Int) (hmost : most ≤ 16) (p : Rd α) (val : GloD → α) (w0 w : World) (l : List Int) (h : BR w P l) (hb : Below N w0 w) (hNP : N ≤ P) (hNw : N ≤ w.heap.size)
    (HONE : Hid (∀ l' w', BR w' P l' → Below N w0 w' → N ≤ w'.heap.size → Calls Tryz.prog 152 #[.pointer (some ⟨P, 0, none⟩)] w' (Out P (fun a w v => ∃ d : GloD, v = .agg #[.int .u8 d.k, .bool d.m, .int .i64 d.s] ∧ val d = a ∧ GloD.ok w d) (p l') w'))) :
    Calls Tryz.prog 151 #[.pointer (some ⟨P, 0, none⟩), .int .i64 most, .func (.func 152) #[.pointer (some ⟨P, 0, none⟩)] #[]] w (Out P (vList N 63 3 GloD.cells GloD.ok val) (rList most p l) w) := by
  obtain ⟨i0, hi, hz0, hz1, hz2⟩ := info_parts Tryz.infoLglo
  have HC : Hid (type_of% (bcount P most l w h)) := bcount P most l w h
  have HBY : Hid (Bts l) := h.byte
  have HBW : Hid (Below N w0 w) := hb
  clear h hb
  go_enter Tryz.func151, Tryz.ntmps151
  go_wp2_with fail
  refine HC.out.mono ?_
  clear HC
  intro r w1 ho
  cases hx : rCount most l with
  | error x =>
    obtain ⟨c, rfl⟩ := ho.err hx
    exact ⟨rfl, Out.mkE (nxt_err hx) c⟩
  | ok q =>
    obtain ⟨n, l1⟩ := q
    obtain ⟨c, ⟨v, rfl, rfl⟩, hb1⟩ := ho.got hx
    obtain ⟨hn, _, _⟩ := (cod_count most (by omega)).ok _ _ _ HBY.out hx
    have HX : Hid (rList most p l = rTimes p n.toNat [] l1) := nxt_of hx
    obtain ⟨m, rfl⟩ : ∃ m : Nat, n = (m : Int) := ⟨n.toNat, by omega⟩
    rw [Int.toNat_natCast] at HX
    have hm : m ≤ 16 := by omega
    have HB1 : Hid (BR w1 P l1) := hb1
    have HC1 : Hid (Chg P w w1) := c
    have hs1 := c.size
    clear hx ho hb1 c hn HBY
    go_wp2
    go_loopw [7, 11] (fun ls iv wr => ∃ i cap : Nat, ∃ o : Option Addr, ∃ L : List GloD, ∃ li : List Int, ls = .slice o i cap ∧ iv = .int .i64 (i : Int) ∧ i ≤ m ∧ Hid (LR wr w.heap.size 63 3 GloD.cells GloD.ok o i cap L) ∧ Hid (BR wr P li) ∧ Hid (rTimes p m [] l1 = rTimes p (m - i) (L.map val) li) ∧ Hid (Chg P w wr)) (fun _ iv _ => m - (intOf iv).toNat)
    case atStart => exact ⟨0, 0, none, [], l1, rfl, rfl, by omega, LR.nil _ _ _ _ _ _, HB1, rfl, HC1⟩
    case round =>
      obtain ⟨i, cap, o, L, li, rfl, rfl, him, HL, HB, HT, HW⟩ := hrel
      clear HB1 HC1 hs1
      have hsr := HW.out.size
      by_cases hlt : i < m
      · have hcl := (HL.out.capm).1
        have hcm := (HL.out.capm).2
        unfold maxLen at hcm
        go_wp2_with fail
        refine (HONE.out li _ HB.out (below_chg HBW.out HW.out hNP hNw) (by omega)).mono ?_
        intro r w2 ho
        cases hx : p li with
        | error x =>
          obtain ⟨c, rfl⟩ := ho.err hx
          exact ⟨rfl, Out.mkE (HX.out.trans (HT.out.trans (rTimes_err (by omega) hx))) (HW.out.trans c)⟩
        | ok q =>
        obtain ⟨a, l2⟩ := q
        obtain ⟨c, ⟨v, rfl, d, hvd, hva, hok⟩, hb2⟩ := ho.got hx
        have HT2 : Hid (rTimes p m [] l1 = rTimes p (m - i - 1) (L.map val ++ [a]) l2) := HT.out.trans (rTimes_got (by omega) hx)
        have q : Kp (far 63) wr w2 := Kp.reader HB.out c _ (by decide)
        have HL2 : Hid (LR w2 w.heap.size 63 3 GloD.cells GloD.ok o i cap L) := by
          have q1 : Kp (fun t => t != 79) wr w2 := Kp.reader HB.out c _ (by decide)
          exact HL.out.kp q1 (by decide) (fun _ hd => hd)
        have HB2 : Hid (BR w2 P l2) := hb2
        have HW2 : Hid (Chg P w w2) := HW.out.trans c
        have hs2 := c.size
        obtain ⟨d0, hd0⟩ : ∃ d0, d0 = d := ⟨_, rfl⟩
        have HD : Hid (val d0 = a ∧ GloD.ok w2 d0) := by rw [hd0]; exact ⟨hva, hok⟩
        obtain ⟨k1, m1, s1⟩ := d
        have HDC : Hid (GloD.cells d0 = [.int .u8 k1, .bool m1, .int .i64 s1]) := by rw [hd0]; rfl
        clear hd0 hva hok
        dsimp only at hvd
        subst hvd
        clear q c hb2 ho hx HL HB HW HT
        have bA : Below w2.heap.size w2 (w2.alloc (.cells #[.int .u8 k1, .bool m1, .int .i64 s1] 63)) := (Below.refl _ _).alloc (Nat.le_refl _) _
        have HBA : Hid (type_of% bA) := bA
        clear bA
        go_wp2_with (at_builtin; refine wpList_append_lies _ rfl _ _ 25 rfl w.heap.size 63 i0 (.agg #[.int .u8 0, .bool false, .int .i64 0]) 3 16 Tryz.underlying25 hi hz0 hz1 hz2 rfl (by omega) _ i (L.flatMap GloD.cells) rfl (HL2.out.own.alloc _) ⟨w2.heap.size, 0, none⟩ 1 1 [.int .u8 k1, .bool m1, .int .i64 s1] rfl rfl (World.news_of_block (cs := #[.int .u8 k1, .bool m1, .int .i64 s1]) (t := 63) (fr := (0, 0)) (heap_alloc_new w2 _)) (by simp [Value.oneCell']) (by omega) (by unfold maxLen; omega) (by omega) (by simp; omega) (w2.heap.size + 1) (by simp) ?_)
        intro g capg w3 hown hgrow hat hlt3
        have qA : Kp (far 63) w2 w3 := (Kp.below _ HBA.out).trans (Kp.grown (HL2.out.own.alloc _) hgrow _ (by decide))
        have qB : Kp (fun t => t != 63) w2 w3 := (Kp.below _ HBA.out).trans (Kp.grown (HL2.out.own.alloc _) hgrow _ (by decide))
        have HL3 : Hid (LR w3 w.heap.size 63 3 GloD.cells GloD.ok (some ⟨g, 0, none⟩) (i + 1) capg (L ++ [d0])) := by
          have q := qA
          exact HL2.out.app (fun _ hd => hd) HD.out.2 (by rw [HDC.out]; exact hown)
        have HB3 : Hid (BR w3 P l2) := HB2.out.kp qB (by decide)
        have HW3 : Hid (Chg P w w3) := Chg.grown2 (HW2.out.trans (Chg.of_below HBA.out)) (HL2.out.own.alloc _) hgrow (Nat.le_refl _)
        have HT3 : Hid (rTimes p m [] l1 = rTimes p (m - (i + 1)) ((L ++ [d0]).map val) l2) := by
          unfold Hid
          rw [List.map_append, show m - (i + 1) = m - i - 1 by omega, HT2.out, show [d0].map val = [a] by rw [← HD.out.1]; rfl]
        clear hown hgrow hat hlt3 qA qB HL2 HB2 HW2 HD HDC HBA HT2
        go_wp2
        go_roundw
        case rel => exact ⟨i + 1, capg, _, L ++ [d0], l2, rfl, by go_num, by omega, HL3, HB3, HT3, HW3⟩
        case measure => simp [intOf]; omega
      · go_wp2
        go_ret
        have e : m - i = 0 := by omega
        have hT := HX.out.trans HT.out
        rw [e, rTimes] at hT
        have hl := HL.out.len
        subst hl
        exact Out.mkO hT HW.out ⟨o, cap, L, rfl, rfl, ⟨ownsRow_down HL.out.own hNw, HL.out.len, HL.out.ok⟩⟩ HB.out
theorem Tryz.infoLexp : (Tryz.prog.info? 65).map (fun i => (i.zero, i.size, i.bytes)) = some (some (.agg #[.string ⟨#[]⟩, .int .i64 0]), 2, 24) := by kernel_rfl
theorem blist_exp {α : Type} (P N : Nat) (most : Int) (hmost : most ≤ 16) (p : Rd α) (val : NamD → α) (w0 w : World) (l : List Int) (h : BR w P l) (hb : Below N w0 w) (hNP : N ≤ P) (hNw : N ≤ w.heap.size)
    (HONE : Hid (∀ l' w', BR w' P l' → Below N w0 w' → N ≤ w'.heap.size → Calls Tryz.prog 154 #[.pointer (some ⟨P, 0, none⟩)] w' (Out P (fun a w v => ∃ d : NamD, v = .agg #[.string d.s, .int .i64 d.n] ∧ val d = a ∧ NamD.ok w d) (p l') w'))) :
    Calls Tryz.prog 153 #[.pointer (some ⟨P, 0, none⟩), .int .i64 most, .func (.func 154) #[.pointer (some ⟨P, 0, none⟩)] #[]] w (Out P (vList N 65 2 NamD.cells NamD.ok val) (rList most p l) w) := by
  obtain ⟨i0, hi, hz0, hz1, hz2⟩ := info_parts Tryz.infoLexp
  have HC : Hid (type_of% (bcount P most l w h)) := bcount P most l w h
  have HBY : Hid (Bts l) := h.byte
  have HBW : Hid (Below N w0 w) := hb
  clear h hb
  go_enter Tryz.func153, Tryz.ntmps153
  go_wp2_with fail
  refine HC.out.mono ?_
  clear HC
  intro r w1 ho
  cases hx : rCount most l with
  | error x =>
    obtain ⟨c, rfl⟩ := ho.err hx
    exact ⟨rfl, Out.mkE (nxt_err hx) c⟩
  | ok q =>
    obtain ⟨n, l1⟩ := q
    obtain ⟨c, ⟨v, rfl, rfl⟩, hb1⟩ := ho.got hx
    obtain ⟨hn, _, _⟩ := (cod_count most (by omega)).ok _ _ _ HBY.out hx
    have HX : Hid (rList most p l = rTimes p n.toNat [] l1) := nxt_of hx
    obtain ⟨m, rfl⟩ : ∃ m : Nat, n = (m : Int) := ⟨n.toNat, by omega⟩
    rw [Int.toNat_natCast] at HX
    have hm : m ≤ 16 := by omega
    have HB1 : Hid (BR w1 P l1) := hb1
    have HC1 : Hid (Chg P w w1) := c
    have hs1 := c.size
    clear hx ho hb1 c hn HBY
    go_wp2
    go_loopw [7, 11] (fun ls iv wr => ∃ i cap : Nat, ∃ o : Option Addr, ∃ L : List NamD, ∃ li : List Int, ls = .slice o i cap ∧ iv = .int .i64 (i : Int) ∧ i ≤ m ∧ Hid (LR wr w.heap.size 65 2 NamD.cells NamD.ok o i cap L) ∧ Hid (BR wr P li) ∧ Hid (rTimes p m [] l1 = rTimes p (m - i) (L.map val) li) ∧ Hid (Chg P w wr)) (fun _ iv _ => m - (intOf iv).toNat)
    case atStart => exact ⟨0, 0, none, [], l1, rfl, rfl, by omega, LR.nil _ _ _ _ _ _, HB1, rfl, HC1⟩
    case round =>
      obtain ⟨i, cap, o, L, li, rfl, rfl, him, HL, HB, HT, HW⟩ := hrel
      clear HB1 HC1 hs1
      have hsr := HW.out.size
      by_cases hlt : i < m
      · have hcl := (HL.out.capm).1
        have hcm := (HL.out.capm).2
        unfold maxLen at hcm
        go_wp2_with fail
        refine (HONE.out li _ HB.out (below_chg HBW.out HW.out hNP hNw) (by omega)).mono ?_
        intro r w2 ho
        cases hx : p li with
        | error x =>
          obtain ⟨c, rfl⟩ := ho.err hx
          exact ⟨rfl, Out.mkE (HX.out.trans (HT.out.trans (rTimes_err (by omega) hx))) (HW.out.trans c)⟩
        | ok q =>
        obtain ⟨a, l2⟩ := q
        obtain ⟨c, ⟨v, rfl, d, hvd, hva, hok⟩, hb2⟩ := ho.got hx
        have HT2 : Hid (rTimes p m [] l1 = rTimes p (m - i - 1) (L.map val ++ [a]) l2) := HT.out.trans (rTimes_got (by omega) hx)
        have q : Kp (far 65) wr w2 := Kp.reader HB.out c _ (by decide)
        have HL2 : Hid (LR w2 w.heap.size 65 2 NamD.cells NamD.ok o i cap L) := by
          have q1 : Kp (fun t => t != 79) wr w2 := Kp.reader HB.out c _ (by decide)
          exact HL.out.kp q1 (by decide) (fun _ hd => hd)
        have HB2 : Hid (BR w2 P l2) := hb2
        have HW2 : Hid (Chg P w w2) := HW.out.trans c
        have hs2 := c.size
        obtain ⟨d0, hd0⟩ : ∃ d0, d0 = d := ⟨_, rfl⟩
        have HD : Hid (val d0 = a ∧ NamD.ok w2 d0) := by rw [hd0]; exact ⟨hva, hok⟩
        obtain ⟨s1, n1⟩ := d
        have HDC : Hid (NamD.cells d0 = [.string s1, .int .i64 n1]) := by rw [hd0]; rfl
        clear hd0 hva hok
        dsimp only at hvd
        subst hvd
        clear q c hb2 ho hx HL HB HW HT
        have bA : Below w2.heap.size w2 (w2.alloc (.cells #[.string s1, .int .i64 n1] 65)) := (Below.refl _ _).alloc (Nat.le_refl _) _
        have HBA : Hid (type_of% bA) := bA
        clear bA
        go_wp2_with (at_builtin; refine wpList_append_lies _ rfl _ _ 26 rfl w.heap.size 65 i0 (.agg #[.string ⟨#[]⟩, .int .i64 0]) 2 24 Tryz.underlying26 hi hz0 hz1 hz2 rfl (by omega) _ i (L.flatMap NamD.cells) rfl (HL2.out.own.alloc _) ⟨w2.heap.size, 0, none⟩ 1 1 [.string s1, .int .i64 n1] rfl rfl (World.news_of_block (cs := #[.string s1, .int .i64 n1]) (t := 65) (fr := (0, 0)) (heap_alloc_new w2 _)) (by simp [Value.oneCell']) (by omega) (by unfold maxLen; omega) (by omega) (by simp; omega) (w2.heap.size + 1) (by simp) ?_)
        intro g capg w3 hown hgrow hat hlt3
        have qA : Kp (far 65) w2 w3 := (Kp.below _ HBA.out).trans (Kp.grown (HL2.out.own.alloc _) hgrow _ (by decide))
        have qB : Kp (fun t => t != 65) w2 w3 := (Kp.below _ HBA.out).trans (Kp.grown (HL2.out.own.alloc _) hgrow _ (by decide))
        have HL3 : Hid (LR w3 w.heap.size 65 2 NamD.cells NamD.ok (some ⟨g, 0, none⟩) (i + 1) capg (L ++ [d0])) := by
          have q := qA
          exact HL2.out.app (fun _ hd => hd) HD.out.2 (by rw [HDC.out]; exact hown)
        have HB3 : Hid (BR w3 P l2) := HB2.out.kp qB (by decide)
        have HW3 : Hid (Chg P w w3) := Chg.grown2 (HW2.out.trans (Chg.of_below HBA.out)) (HL2.out.own.alloc _) hgrow (Nat.le_refl _)
        have HT3 : Hid (rTimes p m [] l1 = rTimes p (m - (i + 1)) ((L ++ [d0]).map val) l2) := by
          unfold Hid
          rw [List.map_append, show m - (i + 1) = m - i - 1 by omega, HT2.out, show [d0].map val = [a] by rw [← HD.out.1]; rfl]
        clear hown hgrow hat hlt3 qA qB HL2 HB2 HW2 HD HDC HBA HT2
        go_wp2
        go_roundw
        case rel => exact ⟨i + 1, capg, _, L ++ [d0], l2, rfl, by go_num, by omega, HL3, HB3, HT3, HW3⟩
        case measure => simp [intOf]; omega
      · go_wp2
        go_ret
        have e : m - i = 0 := by omega
        have hT := HX.out.trans HT.out
        rw [e, rTimes] at hT
        have hl := HL.out.len
        subst hl
        exact Out.mkO hT HW.out ⟨o, cap, L, rfl, rfl, ⟨ownsRow_down HL.out.own hNw, HL.out.len, HL.out.ok⟩⟩ HB.out
theorem Tryz.infoLele : (Tryz.prog.info? 68).map (fun i => (i.zero, i.size, i.bytes)) = some (some (.agg #[.int .i64 0, .slice none 0 0]), 2, 32) := by kernel_rfl
theorem blist_ele {α : Type} (P N : Nat) (most : Int) (hmost : most ≤ 16) (p : Rd α) (val : EleD → α) (w0 w : World) (l : List Int) (h : BR w P l) (hb : Below N w0 w) (hNP : N ≤ P) (hNw : N ≤ w.heap.size)
    (HONE : Hid (∀ l' w', BR w' P l' → Below N w0 w' → N ≤ w'.heap.size → Calls Tryz.prog 157 #[.pointer (some ⟨P, 0, none⟩)] w' (Out P (fun a w v => ∃ d : EleD, v = .agg #[.int .i64 d.a, .slice d.f.o d.f.n d.f.cap] ∧ val d = a ∧ EleG w d) (p l') w'))) :
    Calls Tryz.prog 156 #[.pointer (some ⟨P, 0, none⟩), .int .i64 most, .func (.func 157) #[.pointer (some ⟨P, 0, none⟩)] #[]] w (Out P (vList N 68 2 EleD.cells EleG val) (rList most p l) w) := by
  obtain ⟨i0, hi, hz0, hz1, hz2⟩ := info_parts Tryz.infoLele
  have HC : Hid (type_of% (bcount P most l w h)) := bcount P most l w h
  have HBY : Hid (Bts l) := h.byte
  have HBW : Hid (Below N w0 w) := hb
  clear h hb
  go_enter Tryz.func156, Tryz.ntmps156
  go_wp2_with fail
  refine HC.out.mono ?_
  clear HC
  intro r w1 ho
  cases hx : rCount most l with
  | error x =>
    obtain ⟨c, rfl⟩ := ho.err hx
    exact ⟨rfl, Out.mkE (nxt_err hx) c⟩
  | ok q =>
    obtain ⟨n, l1⟩ := q
    obtain ⟨c, ⟨v, rfl, rfl⟩, hb1⟩ := ho.got hx
    obtain ⟨hn, _, _⟩ := (cod_count most (by omega)).ok _ _ _ HBY.out hx
    have HX : Hid (rList most p l = rTimes p n.toNat [] l1) := nxt_of hx
    obtain ⟨m, rfl⟩ : ∃ m : Nat, n = (m : Int) := ⟨n.toNat, by omega⟩
    rw [Int.toNat_natCast] at HX
    have hm : m ≤ 16 := by omega
    have HB1 : Hid (BR w1 P l1) := hb1
    have HC1 : Hid (Chg P w w1) := c
    have hs1 := c.size
    clear hx ho hb1 c hn HBY
    go_wp2
    go_loopw [7, 11] (fun ls iv wr => ∃ i cap : Nat, ∃ o : Option Addr, ∃ L : List EleD, ∃ li : List Int, ls = .slice o i cap ∧ iv = .int .i64 (i : Int) ∧ i ≤ m ∧ Hid (LR wr w.heap.size 68 2 EleD.cells EleG o i cap L) ∧ Hid (BR wr P li) ∧ Hid (rTimes p m [] l1 = rTimes p (m - i) (L.map val) li) ∧ Hid (Chg P w wr)) (fun _ iv _ => m - (intOf iv).toNat)
    case atStart => exact ⟨0, 0, none, [], l1, rfl, rfl, by omega, LR.nil _ _ _ _ _ _, HB1, rfl, HC1⟩
    case round =>
      obtain ⟨i, cap, o, L, li, rfl, rfl, him, HL, HB, HT, HW⟩ := hrel
      clear HB1 HC1 hs1
      have hsr := HW.out.size
      by_cases hlt : i < m
      · have hcl := (HL.out.capm).1
        have hcm := (HL.out.capm).2
        unfold maxLen at hcm
        go_wp2_with fail
        refine (HONE.out li _ HB.out (below_chg HBW.out HW.out hNP hNw) (by omega)).mono ?_
        intro r w2 ho
        cases hx : p li with
        | error x =>
          obtain ⟨c, rfl⟩ := ho.err hx
          exact ⟨rfl, Out.mkE (HX.out.trans (HT.out.trans (rTimes_err (by omega) hx))) (HW.out.trans c)⟩
        | ok q =>
        obtain ⟨a, l2⟩ := q
        obtain ⟨c, ⟨v, rfl, d, hvd, hva, hok⟩, hb2⟩ := ho.got hx
        have HT2 : Hid (rTimes p m [] l1 = rTimes p (m - i - 1) (L.map val ++ [a]) l2) := HT.out.trans (rTimes_got (by omega) hx)
        have q : Kp (far 68) wr w2 := Kp.reader HB.out c _ (by decide)
        have HL2 : Hid (LR w2 w.heap.size 68 2 EleD.cells EleG o i cap L) := by
          have q1 : Kp (fun t => t != 79) wr w2 := Kp.reader HB.out c _ (by decide)
          exact HL.out.kp q1 (by decide) (fun d hd => hd.kp q (by decide))
        have HB2 : Hid (BR w2 P l2) := hb2
        have HW2 : Hid (Chg P w w2) := HW.out.trans c
        have hs2 := c.size
        obtain ⟨d0, hd0⟩ : ∃ d0, d0 = d := ⟨_, rfl⟩
        have HD : Hid (val d0 = a ∧ EleG w2 d0) := by rw [hd0]; exact ⟨hva, hok⟩
        obtain ⟨a1, ⟨o2, n2, c2, x2⟩⟩ := d
        have HDC : Hid (EleD.cells d0 = [.int .i64 a1, .slice o2 n2 c2]) := by rw [hd0]; rfl
        clear hd0 hva hok
        dsimp only at hvd
        subst hvd
        clear q c hb2 ho hx HL HB HW HT
        have bA : Below w2.heap.size w2 (w2.alloc (.cells #[.int .i64 a1, .slice o2 n2 c2] 68)) := (Below.refl _ _).alloc (Nat.le_refl _) _
        have HBA : Hid (type_of% bA) := bA
        clear bA
        go_wp2_with (at_builtin; refine wpList_append_lies _ rfl _ _ 27 rfl w.heap.size 68 i0 (.agg #[.int .i64 0, .slice none 0 0]) 2 32 Tryz.underlying27 hi hz0 hz1 hz2 rfl (by omega) _ i (L.flatMap EleD.cells) rfl (HL2.out.own.alloc _) ⟨w2.heap.size, 0, none⟩ 1 1 [.int .i64 a1, .slice o2 n2 c2] rfl rfl (World.news_of_block (cs := #[.int .i64 a1, .slice o2 n2 c2]) (t := 68) (fr := (0, 0)) (heap_alloc_new w2 _)) (by simp [Value.oneCell']) (by omega) (by unfold maxLen; omega) (by omega) (by simp; omega) (w2.heap.size + 1) (by simp) ?_)
        intro g capg w3 hown hgrow hat hlt3
        have qA : Kp (far 68) w2 w3 := (Kp.below _ HBA.out).trans (Kp.grown (HL2.out.own.alloc _) hgrow _ (by decide))
        have qB : Kp (fun t => t != 68) w2 w3 := (Kp.below _ HBA.out).trans (Kp.grown (HL2.out.own.alloc _) hgrow _ (by decide))
        have HL3 : Hid (LR w3 w.heap.size 68 2 EleD.cells EleG (some ⟨g, 0, none⟩) (i + 1) capg (L ++ [d0])) := by
          have q := qA
          exact HL2.out.app (fun d hd => hd.kp q (by decide)) HD.out.2 (by rw [HDC.out]; exact hown)
        have HB3 : Hid (BR w3 P l2) := HB2.out.kp qB (by decide)
        have HW3 : Hid (Chg P w w3) := Chg.grown2 (HW2.out.trans (Chg.of_below HBA.out)) (HL2.out.own.alloc _) hgrow (Nat.le_refl _)
        have HT3 : Hid (rTimes p m [] l1 = rTimes p (m - (i + 1)) ((L ++ [d0]).map val) l2) := by
          unfold Hid
          rw [List.map_append, show m - (i + 1) = m - i - 1 by omega, HT2.out, show [d0].map val = [a] by rw [← HD.out.1]; rfl]
        clear hown hgrow hat hlt3 qA qB HL2 HB2 HW2 HD HDC HBA HT2
        go_wp2
        go_roundw
        case rel => exact ⟨i + 1, capg, _, L ++ [d0], l2, rfl, by go_num, by omega, HL3, HB3, HT3, HW3⟩
        case measure => simp [intOf]; omega
      · go_wp2
        go_ret
        have e : m - i = 0 := by omega
        have hT := HX.out.trans HT.out
        rw [e, rTimes] at hT
        have hl := HL.out.len
        subst hl
        exact Out.mkO hT HW.out ⟨o, cap, L, rfl, rfl, ⟨ownsRow_down HL.out.own hNw, HL.out.len, HL.out.ok⟩⟩ HB.out
theorem Tryz.infoLfun : (Tryz.prog.info? 58).map (fun i => (i.zero, i.size, i.bytes)) = some (some (.agg #[.int .i64 0, .slice none 0 0, .slice none 0 0]), 3, 56) := by kernel_rfl
theorem blist_fun {α : Type} (P N : Nat) (most : Int) (hmost : most ≤ 16) (p : Rd α) (val : FunD → α) (w0 w : World) (l : List Int) (h : BR w P l) (hb : Below N w0 w) (hNP : N ≤ P) (hNw : N ≤ w.heap.size)
    (HONE : Hid (∀ l' w', BR w' P l' → Below N w0 w' → N ≤ w'.heap.size → Calls Tryz.prog 159 #[.pointer (some ⟨P, 0, none⟩)] w' (Out P (fun a w v => ∃ d : FunD, v = .agg #[.int .i64 d.t, .slice d.l.o d.l.n d.l.cap, .slice d.o d.b.length d.cap] ∧ val d = a ∧ FunG w d) (p l') w'))) :
    Calls Tryz.prog 158 #[.pointer (some ⟨P, 0, none⟩), .int .i64 most, .func (.func 159) #[.pointer (some ⟨P, 0, none⟩)] #[]] w (Out P (vList N 58 3 FunD.cells FunG val) (rList most p l) w) := by
  obtain ⟨i0, hi, hz0, hz1, hz2⟩ := info_parts Tryz.infoLfun
  have HC : Hid (type_of% (bcount P most l w h)) := bcount P most l w h
  have HBY : Hid (Bts l) := h.byte
  have HBW : Hid (Below N w0 w) := hb
  clear h hb
  go_enter Tryz.func158, Tryz.ntmps158
  go_wp2_with fail
  refine HC.out.mono ?_
  clear HC
  intro r w1 ho
  cases hx : rCount most l with
  | error x =>
    obtain ⟨c, rfl⟩ := ho.err hx
    exact ⟨rfl, Out.mkE (nxt_err hx) c⟩
  | ok q =>
    obtain ⟨n, l1⟩ := q
    obtain ⟨c, ⟨v, rfl, rfl⟩, hb1⟩ := ho.got hx
    obtain ⟨hn, _, _⟩ := (cod_count most (by omega)).ok _ _ _ HBY.out hx
    have HX : Hid (rList most p l = rTimes p n.toNat [] l1) := nxt_of hx
    obtain ⟨m, rfl⟩ : ∃ m : Nat, n = (m : Int) := ⟨n.toNat, by omega⟩
    rw [Int.toNat_natCast] at HX
    have hm : m ≤ 16 := by omega
    have HB1 : Hid (BR w1 P l1) := hb1
    have HC1 : Hid (Chg P w w1) := c
    have hs1 := c.size
    clear hx ho hb1 c hn HBY
    go_wp2
    go_loopw [7, 11] (fun ls iv wr => ∃ i cap : Nat, ∃ o : Option Addr, ∃ L : List FunD, ∃ li : List Int, ls = .slice o i cap ∧ iv = .int .i64 (i : Int) ∧ i ≤ m ∧ Hid (LR wr w.heap.size 58 3 FunD.cells FunG o i cap L) ∧ Hid (BR wr P li) ∧ Hid (rTimes p m [] l1 = rTimes p (m - i) (L.map val) li) ∧ Hid (Chg P w wr)) (fun _ iv _ => m - (intOf iv).toNat)
    case atStart => exact ⟨0, 0, none, [], l1, rfl, rfl, by omega, LR.nil _ _ _ _ _ _, HB1, rfl, HC1⟩
    case round =>
      obtain ⟨i, cap, o, L, li, rfl, rfl, him, HL, HB, HT, HW⟩ := hrel
      clear HB1 HC1 hs1
      have hsr := HW.out.size
      by_cases hlt : i < m
      · have hcl := (HL.out.capm).1
        have hcm := (HL.out.capm).2
        unfold maxLen at hcm
        go_wp2_with fail
        refine (HONE.out li _ HB.out (below_chg HBW.out HW.out hNP hNw) (by omega)).mono ?_
        intro r w2 ho
        cases hx : p li with
        | error x =>
          obtain ⟨c, rfl⟩ := ho.err hx
          exact ⟨rfl, Out.mkE (HX.out.trans (HT.out.trans (rTimes_err (by omega) hx))) (HW.out.trans c)⟩
        | ok q =>
        obtain ⟨a, l2⟩ := q
        obtain ⟨c, ⟨v, rfl, d, hvd, hva, hok⟩, hb2⟩ := ho.got hx
        have HT2 : Hid (rTimes p m [] l1 = rTimes p (m - i - 1) (L.map val ++ [a]) l2) := HT.out.trans (rTimes_got (by omega) hx)
        have q : Kp (far 58) wr w2 := Kp.reader HB.out c _ (by decide)
        have HL2 : Hid (LR w2 w.heap.size 58 3 FunD.cells FunG o i cap L) := by
          have q1 : Kp (fun t => t != 79) wr w2 := Kp.reader HB.out c _ (by decide)
          exact HL.out.kp q1 (by decide) (fun d hd => hd.kp q (by decide) (by decide) (by decide))
        have HB2 : Hid (BR w2 P l2) := hb2
        have HW2 : Hid (Chg P w w2) := HW.out.trans c
        have hs2 := c.size
        obtain ⟨d0, hd0⟩ : ∃ d0, d0 = d := ⟨_, rfl⟩
        have HD : Hid (val d0 = a ∧ FunG w2 d0) := by rw [hd0]; exact ⟨hva, hok⟩
        obtain ⟨t1, ⟨o2, n2, c2, x2⟩, o3, c3, b3⟩ := d
        have HDC : Hid (FunD.cells d0 = [.int .i64 t1, .slice o2 n2 c2, .slice o3 b3.length c3]) := by rw [hd0]; rfl
        clear hd0 hva hok
        dsimp only at hvd
        subst hvd
        clear q c hb2 ho hx HL HB HW HT
        have bA : Below w2.heap.size w2 (w2.alloc (.cells #[.int .i64 t1, .slice o2 n2 c2, .slice o3 b3.length c3] 58)) := (Below.refl _ _).alloc (Nat.le_refl _) _
        have HBA : Hid (type_of% bA) := bA
        clear bA
        go_wp2_with (at_builtin; refine wpList_append_lies _ rfl _ _ 24 rfl w.heap.size 58 i0 (.agg #[.int .i64 0, .slice none 0 0, .slice none 0 0]) 3 56 Tryz.underlying24 hi hz0 hz1 hz2 rfl (by omega) _ i (L.flatMap FunD.cells) rfl (HL2.out.own.alloc _) ⟨w2.heap.size, 0, none⟩ 1 1 [.int .i64 t1, .slice o2 n2 c2, .slice o3 b3.length c3] rfl rfl (World.news_of_block (cs := #[.int .i64 t1, .slice o2 n2 c2, .slice o3 b3.length c3]) (t := 58) (fr := (0, 0)) (heap_alloc_new w2 _)) (by simp [Value.oneCell']) (by omega) (by unfold maxLen; omega) (by omega) (by simp; omega) (w2.heap.size + 1) (by simp) ?_)
        intro g capg w3 hown hgrow hat hlt3
        have qA : Kp (far 58) w2 w3 := (Kp.below _ HBA.out).trans (Kp.grown (HL2.out.own.alloc _) hgrow _ (by decide))
        have qB : Kp (fun t => t != 58) w2 w3 := (Kp.below _ HBA.out).trans (Kp.grown (HL2.out.own.alloc _) hgrow _ (by decide))
        have HL3 : Hid (LR w3 w.heap.size 58 3 FunD.cells FunG (some ⟨g, 0, none⟩) (i + 1) capg (L ++ [d0])) := by
          have q := qA
          exact HL2.out.app (fun d hd => hd.kp q (by decide) (by decide) (by decide)) HD.out.2 (by rw [HDC.out]; exact hown)
        have HB3 : Hid (BR w3 P l2) := HB2.out.kp qB (by decide)
        have HW3 : Hid (Chg P w w3) := Chg.grown2 (HW2.out.trans (Chg.of_below HBA.out)) (HL2.out.own.alloc _) hgrow (Nat.le_refl _)
        have HT3 : Hid (rTimes p m [] l1 = rTimes p (m - (i + 1)) ((L ++ [d0]).map val) l2) := by
          unfold Hid
          rw [List.map_append, show m - (i + 1) = m - i - 1 by omega, HT2.out, show [d0].map val = [a] by rw [← HD.out.1]; rfl]
        clear hown hgrow hat hlt3 qA qB HL2 HB2 HW2 HD HDC HBA HT2
        go_wp2
        go_roundw
        case rel => exact ⟨i + 1, capg, _, L ++ [d0], l2, rfl, by go_num, by omega, HL3, HB3, HT3, HW3⟩
        case measure => simp [intOf]; omega
      · go_wp2
        go_ret
        have e : m - i = 0 := by omega
        have hT := HX.out.trans HT.out
        rw [e, rTimes] at hT
        have hl := HL.out.len
        subst hl
        exact Out.mkO hT HW.out ⟨o, cap, L, rfl, rfl, ⟨ownsRow_down HL.out.own hNw, HL.out.len, HL.out.ok⟩⟩ HB.out
theorem Tryz.infoLdat : (Tryz.prog.info? 70).map (fun i => (i.zero, i.size, i.bytes)) = some (some (.agg #[.int .i64 0, .string ⟨#[]⟩]), 2, 24) := by kernel_rfl
theorem blist_dat {α : Type} (P N : Nat) (most : Int) (hmost : most ≤ 16) (p : Rd α) (val : DatD → α) (w0 w : World) (l : List Int) (h : BR w P l) (hb : Below N w0 w) (hNP : N ≤ P) (hNw : N ≤ w.heap.size)
    (HONE : Hid (∀ l' w', BR w' P l' → Below N w0 w' → N ≤ w'.heap.size → Calls Tryz.prog 161 #[.pointer (some ⟨P, 0, none⟩)] w' (Out P (fun a w v => ∃ d : DatD, v = .agg #[.int .i64 d.a, .string d.s] ∧ val d = a ∧ DatD.ok w d) (p l') w'))) :
    Calls Tryz.prog 160 #[.pointer (some ⟨P, 0, none⟩), .int .i64 most, .func (.func 161) #[.pointer (some ⟨P, 0, none⟩)] #[]] w (Out P (vList N 70 2 DatD.cells DatD.ok val) (rList most p l) w) := by
  obtain ⟨i0, hi, hz0, hz1, hz2⟩ := info_parts Tryz.infoLdat
  have HC : Hid (type_of% (bcount P most l w h)) := bcount P most l w h
  have HBY : Hid (Bts l) := h.byte
  have HBW : Hid (Below N w0 w) := hb
  clear h hb
  go_enter Tryz.func160, Tryz.ntmps160
  go_wp2_with fail
  refine HC.out.mono ?_
  clear HC
  intro r w1 ho
  cases hx : rCount most l with
  | error x =>
    obtain ⟨c, rfl⟩ := ho.err hx
    exact ⟨rfl, Out.mkE (nxt_err hx) c⟩
  | ok q =>
    obtain ⟨n, l1⟩ := q
    obtain ⟨c, ⟨v, rfl, rfl⟩, hb1⟩ := ho.got hx
    obtain ⟨hn, _, _⟩ := (cod_count most (by omega)).ok _ _ _ HBY.out hx
    have HX : Hid (rList most p l = rTimes p n.toNat [] l1) := nxt_of hx
    obtain ⟨m, rfl⟩ : ∃ m : Nat, n = (m : Int) := ⟨n.toNat, by omega⟩
    rw [Int.toNat_natCast] at HX
    have hm : m ≤ 16 := by omega
    have HB1 : Hid (BR w1 P l1) := hb1
    have HC1 : Hid (Chg P w w1) := c
    have hs1 := c.size
    clear hx ho hb1 c hn HBY
    go_wp2
    go_loopw [7, 11] (fun ls iv wr => ∃ i cap : Nat, ∃ o : Option Addr, ∃ L : List DatD, ∃ li : List Int, ls = .slice o i cap ∧ iv = .int .i64 (i : Int) ∧ i ≤ m ∧ Hid (LR wr w.heap.size 70 2 DatD.cells DatD.ok o i cap L) ∧ Hid (BR wr P li) ∧ Hid (rTimes p m [] l1 = rTimes p (m - i) (L.map val) li) ∧ Hid (Chg P w wr)) (fun _ iv _ => m - (intOf iv).toNat)
    case atStart => exact ⟨0, 0, none, [], l1, rfl, rfl, by omega, LR.nil _ _ _ _ _ _, HB1, rfl, HC1⟩
    case round =>
      obtain ⟨i, cap, o, L, li, rfl, rfl, him, HL, HB, HT, HW⟩ := hrel
      clear HB1 HC1 hs1
      have hsr := HW.out.size
      by_cases hlt : i < m
      · have hcl := (HL.out.capm).1
        have hcm := (HL.out.capm).2
        unfold maxLen at hcm
        go_wp2_with fail
        refine (HONE.out li _ HB.out (below_chg HBW.out HW.out hNP hNw) (by omega)).mono ?_
        intro r w2 ho
        cases hx : p li with
        | error x =>
          obtain ⟨c, rfl⟩ := ho.err hx
          exact ⟨rfl, Out.mkE (HX.out.trans (HT.out.trans (rTimes_err (by omega) hx))) (HW.out.trans c)⟩
        | ok q =>
        obtain ⟨a, l2⟩ := q
        obtain ⟨c, ⟨v, rfl, d, hvd, hva, hok⟩, hb2⟩ := ho.got hx
        have HT2 : Hid (rTimes p m [] l1 = rTimes p (m - i - 1) (L.map val ++ [a]) l2) := HT.out.trans (rTimes_got (by omega) hx)
        have q : Kp (far 70) wr w2 := Kp.reader HB.out c _ (by decide)
        have HL2 : Hid (LR w2 w.heap.size 70 2 DatD.cells DatD.ok o i cap L) := by
          have q1 : Kp (fun t => t != 79) wr w2 := Kp.reader HB.out c _ (by decide)
          exact HL.out.kp q1 (by decide) (fun _ hd => hd)
        have HB2 : Hid (BR w2 P l2) := hb2
        have HW2 : Hid (Chg P w w2) := HW.out.trans c
        have hs2 := c.size
        obtain ⟨d0, hd0⟩ : ∃ d0, d0 = d := ⟨_, rfl⟩
        have HD : Hid (val d0 = a ∧ DatD.ok w2 d0) := by rw [hd0]; exact ⟨hva, hok⟩
        obtain ⟨a1, s1⟩ := d
        have HDC : Hid (DatD.cells d0 = [.int .i64 a1, .string s1]) := by rw [hd0]; rfl
        clear hd0 hva hok
        dsimp only at hvd
        subst hvd
        clear q c hb2 ho hx HL HB HW HT
        have bA : Below w2.heap.size w2 (w2.alloc (.cells #[.int .i64 a1, .string s1] 70)) := (Below.refl _ _).alloc (Nat.le_refl _) _
        have HBA : Hid (type_of% bA) := bA
        clear bA
        go_wp2_with (at_builtin; refine wpList_append_lies _ rfl _ _ 28 rfl w.heap.size 70 i0 (.agg #[.int .i64 0, .string ⟨#[]⟩]) 2 24 Tryz.underlying28 hi hz0 hz1 hz2 rfl (by omega) _ i (L.flatMap DatD.cells) rfl (HL2.out.own.alloc _) ⟨w2.heap.size, 0, none⟩ 1 1 [.int .i64 a1, .string s1] rfl rfl (World.news_of_block (cs := #[.int .i64 a1, .string s1]) (t := 70) (fr := (0, 0)) (heap_alloc_new w2 _)) (by simp [Value.oneCell']) (by omega) (by unfold maxLen; omega) (by omega) (by simp; omega) (w2.heap.size + 1) (by simp) ?_)
        intro g capg w3 hown hgrow hat hlt3
        have qA : Kp (far 70) w2 w3 := (Kp.below _ HBA.out).trans (Kp.grown (HL2.out.own.alloc _) hgrow _ (by decide))
        have qB : Kp (fun t => t != 70) w2 w3 := (Kp.below _ HBA.out).trans (Kp.grown (HL2.out.own.alloc _) hgrow _ (by decide))
        have HL3 : Hid (LR w3 w.heap.size 70 2 DatD.cells DatD.ok (some ⟨g, 0, none⟩) (i + 1) capg (L ++ [d0])) := by
          have q := qA
          exact HL2.out.app (fun _ hd => hd) HD.out.2 (by rw [HDC.out]; exact hown)
        have HB3 : Hid (BR w3 P l2) := HB2.out.kp qB (by decide)
        have HW3 : Hid (Chg P w w3) := Chg.grown2 (HW2.out.trans (Chg.of_below HBA.out)) (HL2.out.own.alloc _) hgrow (Nat.le_refl _)
        have HT3 : Hid (rTimes p m [] l1 = rTimes p (m - (i + 1)) ((L ++ [d0]).map val) l2) := by
          unfold Hid
          rw [List.map_append, show m - (i + 1) = m - i - 1 by omega, HT2.out, show [d0].map val = [a] by rw [← HD.out.1]; rfl]
        clear hown hgrow hat hlt3 qA qB HL2 HB2 HW2 HD HDC HBA HT2
        go_wp2
        go_roundw
        case rel => exact ⟨i + 1, capg, _, L ++ [d0], l2, rfl, by go_num, by omega, HL3, HB3, HT3, HW3⟩
        case measure => simp [intOf]; omega
      · go_wp2
        go_ret
        have e : m - i = 0 := by omega
        have hT := HX.out.trans HT.out
        rw [e, rTimes] at hT
        have hl := HL.out.len
        subst hl
        exact Out.mkO hT HW.out ⟨o, cap, L, rfl, rfl, ⟨ownsRow_down HL.out.own hNw, HL.out.len, HL.out.ok⟩⟩ HB.out
theorem Tryz.infoLkin : (Tryz.prog.info? 61).map (fun i => (i.zero, i.size, i.bytes)) = some (some (.int .u8 0), 1, 1) := by kernel_rfl
theorem blist_kin {α : Type} (P N : Nat) (most : Int) (hmost : most ≤ 16) (p : Rd α) (val : Int → α) (w0 w : World) (l : List Int) (h : BR w P l) (hb : Below N w0 w) (hNP : N ≤ P) (hNw : N ≤ w.heap.size)
    (HONE : Hid (∀ l' w', BR w' P l' → Below N w0 w' → N ≤ w'.heap.size → Calls Tryz.prog 185 #[.pointer (some ⟨P, 0, none⟩)] w' (Out P (fun a w v => ∃ d : Int, v = .int .u8 d ∧ val d = a ∧ (fun (_ : World) (x : Int) => (Lit.int .u8 x).wf = true) w d) (p l') w'))) :
    Calls Tryz.prog 184 #[.pointer (some ⟨P, 0, none⟩), .int .i64 most, .func (.func 185) #[.pointer (some ⟨P, 0, none⟩)] #[]] w (Out P (vList N 61 1 (fun x : Int => [Value.int .u8 x]) (fun (_ : World) (x : Int) => (Lit.int .u8 x).wf = true) val) (rList most p l) w) := by
  obtain ⟨i0, hi, hz0, hz1, hz2⟩ := info_parts Tryz.infoLkin
  have HC : Hid (type_of% (bcount P most l w h)) := bcount P most l w h
  have HBY : Hid (Bts l) := h.byte
  have HBW : Hid (Below N w0 w) := hb
  clear h hb
  go_enter Tryz.func184, Tryz.ntmps184
  go_wp2_with fail
  refine HC.out.mono ?_
  clear HC
  intro r w1 ho
  cases hx : rCount most l with
  | error x =>
    obtain ⟨c, rfl⟩ := ho.err hx
    exact ⟨rfl, Out.mkE (nxt_err hx) c⟩
  | ok q =>
    obtain ⟨n, l1⟩ := q
    obtain ⟨c, ⟨v, rfl, rfl⟩, hb1⟩ := ho.got hx
    obtain ⟨hn, _, _⟩ := (cod_count most (by omega)).ok _ _ _ HBY.out hx
    have HX : Hid (rList most p l = rTimes p n.toNat [] l1) := nxt_of hx
    obtain ⟨m, rfl⟩ : ∃ m : Nat, n = (m : Int) := ⟨n.toNat, by omega⟩
    rw [Int.toNat_natCast] at HX
    have hm : m ≤ 16 := by omega
    have HB1 : Hid (BR w1 P l1) := hb1
    have HC1 : Hid (Chg P w w1) := c
    have hs1 := c.size
    clear hx ho hb1 c hn HBY
    go_wp2
    go_loopw [7, 11] (fun ls iv wr => ∃ i cap : Nat, ∃ o : Option Addr, ∃ L : List Int, ∃ li : List Int, ls = .slice o i cap ∧ iv = .int .i64 (i : Int) ∧ i ≤ m ∧ Hid (LR wr w.heap.size 61 1 (fun x : Int => [Value.int .u8 x]) (fun (_ : World) (x : Int) => (Lit.int .u8 x).wf = true) o i cap L) ∧ Hid (BR wr P li) ∧ Hid (rTimes p m [] l1 = rTimes p (m - i) (L.map val) li) ∧ Hid (Chg P w wr)) (fun _ iv _ => m - (intOf iv).toNat)
    case atStart => exact ⟨0, 0, none, [], l1, rfl, rfl, by omega, LR.nil _ _ _ _ _ _, HB1, rfl, HC1⟩
    case round =>
      obtain ⟨i, cap, o, L, li, rfl, rfl, him, HL, HB, HT, HW⟩ := hrel
      clear HB1 HC1 hs1
      have hsr := HW.out.size
      by_cases hlt : i < m
      · have hcl := (HL.out.capm).1
        have hcm := (HL.out.capm).2
        unfold maxLen at hcm
        go_wp2_with fail
        refine (HONE.out li _ HB.out (below_chg HBW.out HW.out hNP hNw) (by omega)).mono ?_
        intro r w2 ho
        cases hx : p li with
        | error x =>
          obtain ⟨c, rfl⟩ := ho.err hx
          exact ⟨rfl, Out.mkE (HX.out.trans (HT.out.trans (rTimes_err (by omega) hx))) (HW.out.trans c)⟩
        | ok q =>
        obtain ⟨a, l2⟩ := q
        obtain ⟨c, ⟨v, rfl, d, hvd, hva, hok⟩, hb2⟩ := ho.got hx
        have HT2 : Hid (rTimes p m [] l1 = rTimes p (m - i - 1) (L.map val ++ [a]) l2) := HT.out.trans (rTimes_got (by omega) hx)
        have q : Kp (far 61) wr w2 := Kp.reader HB.out c _ (by decide)
        have HL2 : Hid (LR w2 w.heap.size 61 1 (fun x : Int => [Value.int .u8 x]) (fun (_ : World) (x : Int) => (Lit.int .u8 x).wf = true) o i cap L) := by
          have q1 : Kp (fun t => t != 79) wr w2 := Kp.reader HB.out c _ (by decide)
          exact HL.out.kp q1 (by decide) (fun _ hd => hd)
        have HB2 : Hid (BR w2 P l2) := hb2
        have HW2 : Hid (Chg P w w2) := HW.out.trans c
        have hs2 := c.size
        obtain ⟨d0, hd0⟩ : ∃ d0, d0 = d := ⟨_, rfl⟩
        have HD : Hid (val d0 = a ∧ (fun (_ : World) (x : Int) => (Lit.int .u8 x).wf = true) w2 d0) := by rw [hd0]; exact ⟨hva, hok⟩
        have HDC : Hid ((fun x : Int => [Value.int .u8 x]) d0 = [.int .u8 d]) := by subst hd0; rfl
        clear hd0 hva hok
        subst hvd
        clear q c hb2 ho hx HL HB HW HT
        have bA : Below w2.heap.size w2 (w2.alloc (.cells #[.int .u8 d] 61)) := (Below.refl _ _).alloc (Nat.le_refl _) _
        have HBA : Hid (type_of% bA) := bA
        clear bA
        go_wp2_with (at_builtin; refine wpList_append_lies _ rfl _ _ 48 rfl w.heap.size 61 i0 (.int .u8 0) 1 1 Tryz.underlying48 hi hz0 hz1 hz2 rfl (by omega) _ i (L.flatMap (fun x : Int => [Value.int .u8 x])) rfl (HL2.out.own.alloc _) ⟨w2.heap.size, 0, none⟩ 1 1 [.int .u8 d] rfl rfl (World.news_of_block (cs := #[.int .u8 d]) (t := 61) (fr := (0, 0)) (heap_alloc_new w2 _)) (by simp [Value.oneCell']) (by omega) (by unfold maxLen; omega) (by omega) (by simp; omega) (w2.heap.size + 1) (by simp) ?_)
        intro g capg w3 hown hgrow hat hlt3
        have qA : Kp (far 61) w2 w3 := (Kp.below _ HBA.out).trans (Kp.grown (HL2.out.own.alloc _) hgrow _ (by decide))
        have qB : Kp (fun t => t != 61) w2 w3 := (Kp.below _ HBA.out).trans (Kp.grown (HL2.out.own.alloc _) hgrow _ (by decide))
        have HL3 : Hid (LR w3 w.heap.size 61 1 (fun x : Int => [Value.int .u8 x]) (fun (_ : World) (x : Int) => (Lit.int .u8 x).wf = true) (some ⟨g, 0, none⟩) (i + 1) capg (L ++ [d0])) := by
          have q := qA
          exact HL2.out.app (fun _ hd => hd) HD.out.2 (by rw [HDC.out]; exact hown)
        have HB3 : Hid (BR w3 P l2) := HB2.out.kp qB (by decide)
        have HW3 : Hid (Chg P w w3) := Chg.grown2 (HW2.out.trans (Chg.of_below HBA.out)) (HL2.out.own.alloc _) hgrow (Nat.le_refl _)
        have HT3 : Hid (rTimes p m [] l1 = rTimes p (m - (i + 1)) ((L ++ [d0]).map val) l2) := by
          unfold Hid
          rw [List.map_append, show m - (i + 1) = m - i - 1 by omega, HT2.out, show [d0].map val = [a] by rw [← HD.out.1]; rfl]
        clear hown hgrow hat hlt3 qA qB HL2 HB2 HW2 HD HDC HBA HT2
        go_wp2
        go_roundw
        case rel => exact ⟨i + 1, capg, _, L ++ [d0], l2, rfl, by go_num, by omega, HL3, HB3, HT3, HW3⟩
        case measure => simp [intOf]; omega
      · go_wp2
        go_ret
        have e : m - i = 0 := by omega
        have hT := HX.out.trans HT.out
        rw [e, rTimes] at hT
        have hl := HL.out.len
        subst hl
        exact Out.mkO hT HW.out ⟨o, cap, L, rfl, rfl, ⟨ownsRow_down HL.out.own hNw, HL.out.len, HL.out.ok⟩⟩ HB.out
theorem Tryz.infoLint : (Tryz.prog.info? 3).map (fun i => (i.zero, i.size, i.bytes)) = some (some (.int .i64 0), 1, 8) := by kernel_rfl
theorem blist_int {α : Type} (P N : Nat) (most : Int) (hmost : most ≤ 16) (p : Rd α) (val : Int → α) (w0 w : World) (l : List Int) (h : BR w P l) (hb : Below N w0 w) (hNP : N ≤ P) (hNw : N ≤ w.heap.size)
    (HONE : Hid (∀ l' w', BR w' P l' → Below N w0 w' → N ≤ w'.heap.size → Calls Tryz.prog 143 #[.pointer (some ⟨P, 0, none⟩)] w' (Out P (fun a w v => ∃ d : Int, v = .int .i64 d ∧ val d = a ∧ (fun (_ : World) (x : Int) => (Lit.int .i64 x).wf = true) w d) (p l') w'))) :
    Calls Tryz.prog 148 #[.pointer (some ⟨P, 0, none⟩), .int .i64 most, .func (.func 143) #[.pointer (some ⟨P, 0, none⟩)] #[]] w (Out P (vList N 3 1 (fun x : Int => [Value.int .i64 x]) (fun (_ : World) (x : Int) => (Lit.int .i64 x).wf = true) val) (rList most p l) w) := by
  obtain ⟨i0, hi, hz0, hz1, hz2⟩ := info_parts Tryz.infoLint
  have HC : Hid (type_of% (bcount P most l w h)) := bcount P most l w h
  have HBY : Hid (Bts l) := h.byte
  have HBW : Hid (Below N w0 w) := hb
  clear h hb
  go_enter Tryz.func148, Tryz.ntmps148
  go_wp2_with fail
  refine HC.out.mono ?_
  clear HC
  intro r w1 ho
  cases hx : rCount most l with
  | error x =>
    obtain ⟨c, rfl⟩ := ho.err hx
    exact ⟨rfl, Out.mkE (nxt_err hx) c⟩
  | ok q =>
    obtain ⟨n, l1⟩ := q
    obtain ⟨c, ⟨v, rfl, rfl⟩, hb1⟩ := ho.got hx
    obtain ⟨hn, _, _⟩ := (cod_count most (by omega)).ok _ _ _ HBY.out hx
    have HX : Hid (rList most p l = rTimes p n.toNat [] l1) := nxt_of hx
    obtain ⟨m, rfl⟩ : ∃ m : Nat, n = (m : Int) := ⟨n.toNat, by omega⟩
    rw [Int.toNat_natCast] at HX
    have hm : m ≤ 16 := by omega
    have HB1 : Hid (BR w1 P l1) := hb1
    have HC1 : Hid (Chg P w w1) := c
    have hs1 := c.size
    clear hx ho hb1 c hn HBY
    go_wp2
    go_loopw [7, 11] (fun ls iv wr => ∃ i cap : Nat, ∃ o : Option Addr, ∃ L : List Int, ∃ li : List Int, ls = .slice o i cap ∧ iv = .int .i64 (i : Int) ∧ i ≤ m ∧ Hid (LR wr w.heap.size 3 1 (fun x : Int => [Value.int .i64 x]) (fun (_ : World) (x : Int) => (Lit.int .i64 x).wf = true) o i cap L) ∧ Hid (BR wr P li) ∧ Hid (rTimes p m [] l1 = rTimes p (m - i) (L.map val) li) ∧ Hid (Chg P w wr)) (fun _ iv _ => m - (intOf iv).toNat)
    case atStart => exact ⟨0, 0, none, [], l1, rfl, rfl, by omega, LR.nil _ _ _ _ _ _, HB1, rfl, HC1⟩
    case round =>
      obtain ⟨i, cap, o, L, li, rfl, rfl, him, HL, HB, HT, HW⟩ := hrel
      clear HB1 HC1 hs1
      have hsr := HW.out.size
      by_cases hlt : i < m
      · have hcl := (HL.out.capm).1
        have hcm := (HL.out.capm).2
        unfold maxLen at hcm
        go_wp2_with fail
        refine (HONE.out li _ HB.out (below_chg HBW.out HW.out hNP hNw) (by omega)).mono ?_
        intro r w2 ho
        cases hx : p li with
        | error x =>
          obtain ⟨c, rfl⟩ := ho.err hx
          exact ⟨rfl, Out.mkE (HX.out.trans (HT.out.trans (rTimes_err (by omega) hx))) (HW.out.trans c)⟩
        | ok q =>
        obtain ⟨a, l2⟩ := q
        obtain ⟨c, ⟨v, rfl, d, hvd, hva, hok⟩, hb2⟩ := ho.got hx
        have HT2 : Hid (rTimes p m [] l1 = rTimes p (m - i - 1) (L.map val ++ [a]) l2) := HT.out.trans (rTimes_got (by omega) hx)
        have q : Kp (far 3) wr w2 := Kp.reader HB.out c _ (by decide)
        have HL2 : Hid (LR w2 w.heap.size 3 1 (fun x : Int => [Value.int .i64 x]) (fun (_ : World) (x : Int) => (Lit.int .i64 x).wf = true) o i cap L) := by
          have q1 : Kp (fun t => t != 79) wr w2 := Kp.reader HB.out c _ (by decide)
          exact HL.out.kp q1 (by decide) (fun _ hd => hd)
        have HB2 : Hid (BR w2 P l2) := hb2
        have HW2 : Hid (Chg P w w2) := HW.out.trans c
        have hs2 := c.size
        obtain ⟨d0, hd0⟩ : ∃ d0, d0 = d := ⟨_, rfl⟩
        have HD : Hid (val d0 = a ∧ (fun (_ : World) (x : Int) => (Lit.int .i64 x).wf = true) w2 d0) := by rw [hd0]; exact ⟨hva, hok⟩
        have HDC : Hid ((fun x : Int => [Value.int .i64 x]) d0 = [.int .i64 d]) := by subst hd0; rfl
        clear hd0 hva hok
        subst hvd
        clear q c hb2 ho hx HL HB HW HT
        have bA : Below w2.heap.size w2 (w2.alloc (.cells #[.int .i64 d] 3)) := (Below.refl _ _).alloc (Nat.le_refl _) _
        have HBA : Hid (type_of% bA) := bA
        clear bA
        go_wp2_with (at_builtin; refine wpList_append_lies _ rfl _ _ 66 rfl w.heap.size 3 i0 (.int .i64 0) 1 8 Tryz.underlying66 hi hz0 hz1 hz2 rfl (by omega) _ i (L.flatMap (fun x : Int => [Value.int .i64 x])) rfl (HL2.out.own.alloc _) ⟨w2.heap.size, 0, none⟩ 1 1 [.int .i64 d] rfl rfl (World.news_of_block (cs := #[.int .i64 d]) (t := 3) (fr := (0, 0)) (heap_alloc_new w2 _)) (by simp [Value.oneCell']) (by omega) (by unfold maxLen; omega) (by omega) (by simp; omega) (w2.heap.size + 1) (by simp) ?_)
        intro g capg w3 hown hgrow hat hlt3
        have qA : Kp (far 3) w2 w3 := (Kp.below _ HBA.out).trans (Kp.grown (HL2.out.own.alloc _) hgrow _ (by decide))
        have qB : Kp (fun t => t != 3) w2 w3 := (Kp.below _ HBA.out).trans (Kp.grown (HL2.out.own.alloc _) hgrow _ (by decide))
        have HL3 : Hid (LR w3 w.heap.size 3 1 (fun x : Int => [Value.int .i64 x]) (fun (_ : World) (x : Int) => (Lit.int .i64 x).wf = true) (some ⟨g, 0, none⟩) (i + 1) capg (L ++ [d0])) := by
          have q := qA
          exact HL2.out.app (fun _ hd => hd) HD.out.2 (by rw [HDC.out]; exact hown)
        have HB3 : Hid (BR w3 P l2) := HB2.out.kp qB (by decide)
        have HW3 : Hid (Chg P w w3) := Chg.grown2 (HW2.out.trans (Chg.of_below HBA.out)) (HL2.out.own.alloc _) hgrow (Nat.le_refl _)
        have HT3 : Hid (rTimes p m [] l1 = rTimes p (m - (i + 1)) ((L ++ [d0]).map val) l2) := by
          unfold Hid
          rw [List.map_append, show m - (i + 1) = m - i - 1 by omega, HT2.out, show [d0].map val = [a] by rw [← HD.out.1]; rfl]
        clear hown hgrow hat hlt3 qA qB HL2 HB2 HW2 HD HDC HBA HT2
        go_wp2
        go_roundw
        case rel => exact ⟨i + 1, capg, _, L ++ [d0], l2, rfl, by go_num, by omega, HL3, HB3, HT3, HW3⟩
        case measure => simp [intOf]; omega
      · go_wp2
        go_ret
        have e : m - i = 0 := by omega
        have hT := HX.out.trans HT.out
        rw [e, rTimes] at hT
        have hl := HL.out.len
        subst hl
        exact Out.mkO hT HW.out ⟨o, cap, L, rfl, rfl, ⟨ownsRow_down HL.out.own hNw, HL.out.len, HL.out.ok⟩⟩ HB.out
end Go.Proofs.YtakpkdckajjooaaGreatDoor
