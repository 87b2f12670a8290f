/-
  What is under way as a text: plain mathematics.
-/
import Derived.Test.YtfmmefmpjejioaaBRd
namespace Go.Proofs.Ytfmmefmpjejioaa
open Go.RowKit

/-- Two readings side by side. -/
def pairR {α β : Type} (p : Rd α) (q : Rd β) : Rd (α × β) := nxt p fun a => nxt q fun b => ret (a, b)
/-- Cut short, it ends too early. -/
def Torn {α : Type} (p : Rd α) (G : α → Prop) (t : α → List Int) : Prop := ∀ a r, G a → r < (t a).length → p ((t a).take r) = .error 3
theorem cod_pair {α β : Type} {p : Rd α} {q : Rd β} {G : α → Prop} {H : β → Prop} {t : α → List Int} {u : β → List Int} (C : Cod p G t) (D : Cod q H u) :
    Cod (pairR p q) (fun x => G x.1 ∧ H x.2) (fun x => t x.1 ++ u x.2) := by
  constructor
  · intro l x r hl h
    obtain ⟨a, r1, h1, h2⟩ := nxt_ok h
    obtain ⟨b, r2, h3, h4⟩ := nxt_ok h2
    simp only [ret, Except.ok.injEq, Prod.mk.injEq] at h4
    obtain ⟨rfl, rfl⟩ := h4
    obtain ⟨c1, c2, c3⟩ := C.ok _ _ _ hl h1
    obtain ⟨d1, d2, d3⟩ := D.ok _ _ _ (hl.suf c2) h3
    refine ⟨⟨c1, d1⟩, d2.trans c2, ?_⟩
    rw [List.length_append]
    dsimp only
    omega
  · intro x more hx
    unfold pairR
    rw [List.append_assoc, nxt_of (C.back _ _ hx.1), nxt_of (D.back _ _ hx.2)]
    rfl
theorem torn_pair {α β : Type} {p : Rd α} {q : Rd β} {G : α → Prop} {H : β → Prop} {t : α → List Int} {u : β → List Int} (C : Cod p G t) (T : Torn p G t) (U : Torn q H u) :
    Torn (pairR p q) (fun x => G x.1 ∧ H x.2) (fun x => t x.1 ++ u x.2) := by
  intro x r hx hr
  rw [List.length_append] at hr
  unfold pairR
  rw [List.take_append]
  by_cases h : r < (t x.1).length
  · rw [show r - (t x.1).length = 0 by omega, List.take_zero, List.append_nil]
    exact nxt_err (T _ _ hx.1 h)
  · rw [List.take_of_length_le (by omega), nxt_of (C.back _ _ hx.1)]
    exact nxt_err (U _ _ hx.2 (by omega))
theorem torn_num : Torn rNum isNum fun n => uB n.toNat := by
  intro a r ha hr
  dsimp only at hr
  have h5 : (uB a.toNat).length ≤ 5 := uB_len 4 a.toNat (by have := ha.2; have := ha.1; omega)
  have e : rU 32 ((uB a.toNat).take r) = (0, 0, 3) := by
    unfold rU
    rw [if_pos (Or.inl rfl)]
    exact rdl_short _ (uB_take _ _ hr) (by rw [List.length_take]; omega)
  unfold rNum
  rw [e]
  rfl
theorem rS_short (B : Int) (hB : B = 32 ∨ B = 64) (l : List Int) (h : rdl fitS B l 0 0 = (0, 0, 3)) : rS B l = (0, 0, 3) := by
  unfold rS
  simp only [hB, if_true, h]
  rfl
theorem sB_len_of (B a : Int) (h : isSgn B a) : 7 * (((sB a).length : Int) - 1) < B := by
  rcases h with ⟨rfl, h1, h2⟩ | ⟨rfl, h1, h2⟩
  · have := sB_len 4 a (by omega) (by omega)
    omega
  · have := sB_len64 a h1 h2
    omega
theorem torn_sgn (B : Int) (hB : B = 32 ∨ B = 64) : Torn (rSgn B) (isSgn B) sB := by
  intro a r ha hr
  have h5 := sB_len_of B a ha
  have e : rS B ((sB a).take r) = (0, 0, 3) := rS_short B hB _ (rdl_short _ (sB_take _ _ hr) (by rw [List.length_take]; omega))
  unfold rSgn
  rw [e]
  rfl
theorem torn_count (most : Int) (hm : most ≤ 4294967295) : Torn (rCount most) (fun n => 0 ≤ n ∧ n ≤ most) fun n => uB n.toNat := by
  intro a r ha hr
  unfold rCount
  exact nxt_err (torn_num a r ⟨ha.1, by omega⟩ hr)
theorem torn_times {α : Type} {p : Rd α} {G : α → Prop} {t : α → List Int} (C : Cod p G t) (T : Torn p G t) : ∀ (K acc : List α) (r : Nat), (∀ a ∈ K, G a) → r < (K.flatMap t).length → rTimes p K.length acc ((K.flatMap t).take r) = .error 3
  | [], _, r, _, h => by simp at h
  | a :: K, acc, r, hK, h => by
    rw [List.flatMap_cons, List.length_append] at h
    rw [List.length_cons, rTimes, List.flatMap_cons, List.take_append]
    dsimp only
    by_cases h1 : r < (t a).length
    · rw [show r - (t a).length = 0 by omega, List.take_zero, List.append_nil, T a r (hK a (by simp)) h1]
    · rw [List.take_of_length_le (by omega), C.back a _ (hK a (by simp))]
      exact torn_times C T K _ _ (fun b hb => hK b (by simp [hb])) (by omega)
theorem torn_list {α : Type} {p : Rd α} {G : α → Prop} {t : α → List Int} (C : Cod p G t) (T : Torn p G t) (most : Int) (hm : most ≤ 4294967295) : Torn (rList most p) (fun L => (L.length : Int) ≤ most ∧ ∀ a ∈ L, G a) (tList t) := by
  intro L r hL hr
  unfold tList at hr ⊢
  rw [List.length_append] at hr
  unfold rList
  rw [List.take_append]
  by_cases h : r < (uB L.length).length
  · rw [show r - (uB L.length).length = 0 by omega, List.take_zero, List.append_nil]
    exact nxt_err (torn_count most hm (L.length : Int) r ⟨by omega, hL.1⟩ h)
  · rw [List.take_of_length_le (by omega), nxt_of (count_back most hm L.length hL.1 _)]
    exact torn_times C T L [] _ hL.2 (by omega)
/-- Bytes behind how many there are. -/
def rBytes (most : Int) : Rd (List Int) := nxt (rCount most) rPiece
def tBytes (l : List Int) : List Int := uB l.length ++ l
theorem cod_bytes (most : Int) (hm : most ≤ 4294967295) : Cod (rBytes most) (fun l => (l.length : Int) ≤ most ∧ Bts l) tBytes := by
  constructor
  · intro l a r hl h
    obtain ⟨n, r1, h1, h2⟩ := nxt_ok h
    obtain ⟨g1, g2, g3⟩ := (cod_count most hm).ok _ _ _ hl h1
    obtain ⟨h3, h4⟩ := rPiece_ok g1.1 h2
    have hs : r <:+ r1 := ⟨a, h3.symm⟩
    refine ⟨⟨by omega, fun b hb => (hl.suf g2) b (by rw [h3]; simp [hb])⟩, hs.trans g2, ?_⟩
    unfold tBytes
    have e : n.toNat = a.length := by omega
    rw [List.length_append]
    have e2 : r1.length = a.length + r.length := by rw [h3, List.length_append]
    rw [e] at g3
    omega
  · intro a more ha
    unfold rBytes tBytes
    rw [List.append_assoc, nxt_of (count_back most hm a.length ha.1 _)]
    exact rPiece_back a more
theorem torn_bytes (most : Int) (hm : most ≤ 4294967295) : Torn (rBytes most) (fun l => (l.length : Int) ≤ most ∧ Bts l) tBytes := by
  intro L r hL hr
  unfold tBytes at hr ⊢
  rw [List.length_append] at hr
  unfold rBytes
  rw [List.take_append]
  by_cases h : r < (uB L.length).length
  · rw [show r - (uB L.length).length = 0 by omega, List.take_zero, List.append_nil]
    exact nxt_err (torn_count most hm (L.length : Int) r ⟨by omega, hL.1⟩ h)
  · rw [List.take_of_length_le (by omega), nxt_of (count_back most hm L.length hL.1 _)]
    unfold rPiece
    rw [if_neg (by rw [List.length_take]; omega)]

/-! ### Images and states -/
abbrev ImgV := List Int × List Int × List Int
abbrev CalV := Int × Int × List Int × List Int
abbrev StaV := Int × List CalV
def rVals (B most : Int) : Rd (List Int) := rList most (rSgn B)
def GVals (B most : Int) (L : List Int) : Prop := (L.length : Int) ≤ most ∧ ∀ a ∈ L, isSgn B a
def rImg : Rd ImgV := pairR (rBytes 2048) (pairR (rVals 32 16) (rVals 64 8))
def rCal : Rd CalV := pairR rNum (pairR rNum (pairR (rVals 64 20) (rVals 64 200)))
def rSta : Rd StaV := pairR rNum (rList 40 rCal)
def rShot : Rd (ImgV × StaV) := pairR rImg rSta
def GImg (x : ImgV) : Prop := ((x.1.length : Int) ≤ 2048 ∧ Bts x.1) ∧ GVals 32 16 x.2.1 ∧ GVals 64 8 x.2.2
def GCal (c : CalV) : Prop := isNum c.1 ∧ isNum c.2.1 ∧ GVals 64 20 c.2.2.1 ∧ GVals 64 200 c.2.2.2
def GSta (s : StaV) : Prop := isNum s.1 ∧ (s.2.length : Int) ≤ 40 ∧ ∀ c ∈ s.2, GCal c
def tImg (x : ImgV) : List Int := tBytes x.1 ++ (tList sB x.2.1 ++ tList sB x.2.2)
def tCal (c : CalV) : List Int := uB c.1.toNat ++ (uB c.2.1.toNat ++ (tList sB c.2.2.1 ++ tList sB c.2.2.2))
def tSta (s : StaV) : List Int := uB s.1.toNat ++ tList tCal s.2
def GShot (p : ImgV × StaV) : Prop := GImg p.1 ∧ GSta p.2
def tShot (p : ImgV × StaV) : List Int := tImg p.1 ++ tSta p.2
theorem cod_vals (B most : Int) (hB : B = 32 ∨ B = 64) (hm : most ≤ 4294967295) : Cod (rVals B most) (GVals B most) (tList sB) := cod_list (cod_sgn B hB) most hm
theorem torn_vals (B most : Int) (hB : B = 32 ∨ B = 64) (hm : most ≤ 4294967295) : Torn (rVals B most) (GVals B most) (tList sB) := torn_list (cod_sgn B hB) (torn_sgn B hB) most hm
theorem cod_img : Cod rImg GImg tImg := cod_pair (cod_bytes 2048 (by decide)) (cod_pair (cod_vals 32 16 (Or.inl rfl) (by decide)) (cod_vals 64 8 (Or.inr rfl) (by decide)))
theorem torn_img : Torn rImg GImg tImg := torn_pair (cod_bytes 2048 (by decide)) (torn_bytes 2048 (by decide)) (torn_pair (cod_vals 32 16 (Or.inl rfl) (by decide)) (torn_vals 32 16 (Or.inl rfl) (by decide)) (torn_vals 64 8 (Or.inr rfl) (by decide)))
theorem cod_cal : Cod rCal GCal tCal := cod_pair cod_num (cod_pair cod_num (cod_pair (cod_vals 64 20 (Or.inr rfl) (by decide)) (cod_vals 64 200 (Or.inr rfl) (by decide))))
theorem torn_cal : Torn rCal GCal tCal := torn_pair cod_num torn_num (torn_pair cod_num torn_num (torn_pair (cod_vals 64 20 (Or.inr rfl) (by decide)) (torn_vals 64 20 (Or.inr rfl) (by decide)) (torn_vals 64 200 (Or.inr rfl) (by decide))))
theorem cod_sta : Cod rSta GSta tSta := cod_pair cod_num (cod_list cod_cal 40 (by decide))
theorem torn_sta : Torn rSta GSta tSta := torn_pair cod_num torn_num (torn_list cod_cal torn_cal 40 (by decide))
theorem cod_shot : Cod rShot GShot tShot := cod_pair cod_img cod_sta
theorem torn_shot : Torn rShot GShot tShot := torn_pair cod_img torn_img torn_sta
/-- What Read says. -/
def shotRead (l : List Int) : Except Int (ImgV × StaV) := match rShot l with
  | .error e => .error e
  | .ok (p, _) => if tShot p = l then .ok p else .error 4
theorem shot_back (p : ImgV × StaV) (h : GShot p) : shotRead (tShot p) = .ok p := by
  have := cod_shot.back p [] h
  rw [List.append_nil] at this
  unfold shotRead
  rw [this]
  dsimp only
  rw [if_pos rfl]
theorem shot_ok (l : List Int) (p : ImgV × StaV) (hl : Bts l) (h : shotRead l = .ok p) : GShot p ∧ tShot p = l := by
  unfold shotRead at h
  cases hr : rShot l with
  | error e => rw [hr] at h; cases h
  | ok q =>
    obtain ⟨q, r⟩ := q
    rw [hr] at h
    dsimp only at h
    split at h
    · rename_i ht
      simp only [Except.ok.injEq] at h
      subst h
      exact ⟨(cod_shot.ok _ _ _ hl hr).1, ht⟩
    · cases h
theorem shot_cut (p : ImgV × StaV) (r : Nat) (h : GShot p) (hr : r < (tShot p).length) : shotRead ((tShot p).take r) = .error 3 := by
  unfold shotRead
  rw [torn_shot p r h hr]
/-- An error is none that is 0. -/
def NZ {α : Type} (p : Rd α) : Prop := ∀ l e, p l = .error e → e ≠ 0
theorem nz_nxt {α β : Type} {p : Rd α} {f : α → Rd β} (h : NZ p) (k : ∀ a, NZ (f a)) : NZ (nxt p f) := by
  intro l e he
  unfold nxt at he
  cases hp : p l with
  | error d => rw [hp] at he; simp only [Except.error.injEq] at he; rw [← he]; exact h l d hp
  | ok q => obtain ⟨a, r⟩ := q; rw [hp] at he; exact k a r e he
theorem nz_ret {α : Type} (a : α) : NZ (ret a) := fun l e h => by cases h
theorem nz_need (b : Bool) (d : Int) (hd : d ≠ 0) : NZ (need b d) := fun l e h => by
  unfold need at h
  cases b with
  | true => simp at h
  | false => simp at h; rw [← h]; exact hd
theorem nz_num : NZ rNum := fun l e h => by
  unfold rNum at h
  split at h
  · cases h
  · rename_i h0; simp only [Except.error.injEq] at h; rw [← h]; exact h0
theorem nz_sgn (B : Int) : NZ (rSgn B) := fun l e h => by
  unfold rSgn at h
  split at h
  · cases h
  · rename_i h0; simp only [Except.error.injEq] at h; rw [← h]; exact h0
theorem nz_piece (n : Int) : NZ (rPiece n) := fun l e h => by
  unfold rPiece at h
  split at h
  · cases h
  · simp only [Except.error.injEq] at h; rw [← h]; decide
theorem nz_count (m : Int) : NZ (rCount m) := nz_nxt nz_num fun _ => nz_nxt (nz_need _ 2 (by decide)) fun _ => nz_ret _
theorem nz_times {α : Type} {p : Rd α} (h : NZ p) : ∀ (n : Nat) (acc : List α), NZ (rTimes p n acc)
  | 0, acc => fun l e he => by cases he
  | n + 1, acc => fun l e he => by
    rw [rTimes] at he
    dsimp only at he
    cases hp : p l with
    | error d => rw [hp] at he; simp only [Except.error.injEq] at he; rw [← he]; exact h l d hp
    | ok q => obtain ⟨a, r⟩ := q; rw [hp] at he; exact nz_times h n _ r e he
theorem nz_list {α : Type} {p : Rd α} (h : NZ p) (m : Int) : NZ (rList m p) := nz_nxt (nz_count m) fun n => nz_times h n.toNat []
theorem nz_pair {α β : Type} {p : Rd α} {q : Rd β} (h : NZ p) (k : NZ q) : NZ (pairR p q) := nz_nxt h fun _ => nz_nxt k fun _ => nz_ret _
theorem nz_shot : NZ rShot := nz_pair (nz_pair (nz_nxt (nz_count 2048) nz_piece) (nz_pair (nz_list (nz_sgn 32) 16) (nz_list (nz_sgn 64) 8))) (nz_pair nz_num (nz_list (nz_pair nz_num (nz_pair nz_num (nz_pair (nz_list (nz_sgn 64) 20) (nz_list (nz_sgn 64) 200)))) 40))
theorem shot_nz (l : List Int) (e : Int) (h : shotRead l = .error e) : e ≠ 0 := by
  unfold shotRead at h
  cases hr : rShot l with
  | error d => rw [hr] at h; simp only [Except.error.injEq] at h; rw [← h]; exact nz_shot l d hr
  | ok q =>
    obtain ⟨q, r⟩ := q
    rw [hr] at h
    dsimp only at h
    split at h
    · cases h
    · simp only [Except.error.injEq] at h; rw [← h]; decide
theorem tBytes_pos (l : List Int) : 1 ≤ (tBytes l).length := by
  unfold tBytes
  have := uB_pos l.length
  rw [List.length_append]
  omega
theorem tShot_pos (p : ImgV × StaV) : 1 ≤ (tShot p).length := by
  unfold tShot tImg
  have := tBytes_pos p.1.1
  rw [List.length_append, List.length_append]
  omega

/-! ### A reading, with its first error carried along -/
/-- What was left and known before, what is read, what is left and known now. -/
def Outc {α : Type} (p : Rd α) (l : List Int) (a : Int) (x : α) (l' : List Int) (a' : Int) : Prop :=
  (a ≠ 0 → a' = a) ∧ (a = 0 → match p l with
    | .error e => a' = e ∧ e ≠ 0
    | .ok (y, r) => y = x ∧ l' = r ∧ a' = 0)
theorem Outc.bad {α : Type} {p : Rd α} {l l' : List Int} {a a' : Int} {x : α} (h : Outc p l a x l' a') (ha : a ≠ 0) : a' = a := h.1 ha
theorem Outc.got {α : Type} {p : Rd α} {l l' : List Int} {a : Int} {x : α} (h : Outc p l a x l' 0) : a = 0 ∧ p l = .ok (x, l') := by
  by_cases ha : a = 0
  · refine ⟨ha, ?_⟩
    have := h.2 ha
    cases hp : p l with
    | error e => rw [hp] at this; exact absurd this.1.symm this.2
    | ok y =>
      obtain ⟨y, r⟩ := y
      rw [hp] at this
      obtain ⟨rfl, rfl, _⟩ := this
      rfl
  · exact absurd (h.1 ha).symm ha
theorem Outc.err {α : Type} {p : Rd α} {l l' : List Int} {a' : Int} {x : α} (h : Outc p l 0 x l' a') (ha : a' ≠ 0) : p l = .error a' := by
  have := h.2 rfl
  cases hp : p l with
  | error e => rw [hp] at this; rw [this.1]
  | ok y =>
    obtain ⟨y, r⟩ := y
    rw [hp] at this
    exact absurd this.2.2 ha
theorem Outc.mk_ok {α : Type} {p : Rd α} {l l' : List Int} {x : α} (h : p l = .ok (x, l')) : Outc p l 0 x l' 0 := ⟨fun h => absurd rfl h, fun _ => by rw [h]; exact ⟨rfl, rfl, rfl⟩⟩
theorem Outc.mk_err {α : Type} {p : Rd α} {l l' : List Int} {x : α} {e : Int} (h : p l = .error e) (he : e ≠ 0) : Outc p l 0 x l' e := ⟨fun h => absurd rfl h, fun _ => by rw [h]; exact ⟨rfl, he⟩⟩
theorem Outc.mk_bad {α : Type} {p : Rd α} {l l' : List Int} {x : α} {a : Int} (h : a ≠ 0) : Outc p l a x l' a := ⟨fun _ => rfl, fun e => absurd e h⟩
theorem Outc.nxt {α β : Type} {p : Rd α} {f : α → Rd β} {l l1 l2 : List Int} {a a1 a2 : Int} {x : α} {y : β} (h : Outc p l a x l1 a1) (k : Outc (f x) l1 a1 y l2 a2) : Outc (Go.Proofs.Ytfmmefmpjejioaa.nxt p f) l a y l2 a2 := by
  by_cases ha : a = 0
  · subst ha
    by_cases h1 : a1 = 0
    · subst h1
      have hp := h.got.2
      by_cases h2 : a2 = 0
      · subst h2
        exact Outc.mk_ok (by rw [nxt_of hp]; exact k.got.2)
      · exact Outc.mk_err (by rw [nxt_of hp]; exact k.err h2) h2
    · have e := k.bad h1
      subst e
      exact Outc.mk_err (nxt_err (h.err h1)) h1
  · have e1 := h.bad ha
    subst e1
    have e2 := k.bad ha
    subst e2
    exact Outc.mk_bad ha
theorem Outc.pair {α β : Type} {p : Rd α} {q : Rd β} {l l1 l2 : List Int} {a a1 a2 : Int} {x : α} {y : β} (h : Outc p l a x l1 a1) (k : Outc q l1 a1 y l2 a2) : Outc (pairR p q) l a (x, y) l2 a2 := by
  refine h.nxt (k.nxt ?_)
  by_cases h2 : a2 = 0
  · subst h2
    exact Outc.mk_ok rfl
  · exact Outc.mk_bad h2
/-- So far in a row of readings: k of n are done. -/
def Sofar {α : Type} (p : Rd α) (n : Nat) (l1 : List Int) (a1 : Int) (k : Nat) (acc : List α) (l : List Int) (a : Int) : Prop :=
  acc.length = k ∧ k ≤ n ∧ (a = 0 → a1 = 0 ∧ rTimes p n [] l1 = rTimes p (n - k) acc l) ∧ (a ≠ 0 → a1 = a ∨ (a1 = 0 ∧ rTimes p n [] l1 = .error a))
theorem Sofar.start {α : Type} (p : Rd α) (n : Nat) (l1 : List Int) (a1 : Int) : Sofar p n l1 a1 0 [] l1 a1 := ⟨rfl, Nat.zero_le _, fun h => ⟨h, rfl⟩, fun _ => Or.inl rfl⟩
theorem Sofar.step {α : Type} {p : Rd α} {n k : Nat} {l1 l l2 : List Int} {a1 a a2 : Int} {acc : List α} {x : α} (h : Sofar p n l1 a1 k acc l a) (hk : k < n) (o : Outc p l a x l2 a2) : Sofar p n l1 a1 (k + 1) (acc ++ [x]) l2 a2 := by
  obtain ⟨h1, h2, h3, h4⟩ := h
  have e : n - k = (n - (k + 1)) + 1 := by omega
  refine ⟨by rw [List.length_append, h1]; rfl, by omega, ?_, ?_⟩
  · rintro rfl
    obtain ⟨rfl, hp⟩ := o.got
    obtain ⟨g1, g2⟩ := h3 rfl
    refine ⟨g1, ?_⟩
    rw [g2, e, rTimes]
    dsimp only
    rw [hp]
  · intro ha2
    by_cases ha : a = 0
    · subst ha
      obtain ⟨g1, g2⟩ := h3 rfl
      refine Or.inr ⟨g1, ?_⟩
      rw [g2, e, rTimes]
      dsimp only
      rw [o.err ha2]
    · have := o.bad ha
      subst this
      exact h4 ha
theorem Sofar.done {α : Type} {p : Rd α} {n : Nat} {l1 l : List Int} {a1 a : Int} {acc : List α} (h : Sofar p n l1 a1 n acc l a) : Outc (rTimes p n []) l1 a1 acc l a := by
  obtain ⟨h1, h2, h3, h4⟩ := h
  by_cases ha : a = 0
  · subst ha
    obtain ⟨rfl, g2⟩ := h3 rfl
    exact Outc.mk_ok (by rw [g2, Nat.sub_self]; rfl)
  · rcases h4 ha with rfl | ⟨rfl, g⟩
    · exact Outc.mk_bad ha
    · exact Outc.mk_err g ha
theorem Sofar.list {α : Type} {p : Rd α} {most : Int} {n : Nat} {l l1 l2 : List Int} {a a1 a2 : Int} {acc : List α} (c : Outc (rCount most) l a (n : Int) l1 a1) (h : Sofar p n l1 a1 n acc l2 a2) : Outc (rList most p) l a acc l2 a2 := c.nxt h.done
end Go.Proofs.Ytfmmefmpjejioaa
