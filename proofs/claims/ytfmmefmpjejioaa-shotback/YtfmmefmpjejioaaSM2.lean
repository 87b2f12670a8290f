/-
  What is written, with its first error carried along: plain mathematics.
-/
import Derived.Test.YtfmmefmpjejioaaSR1
namespace Go.Proofs.Ytfmmefmpjejioaa
open Go.RowKit

/-- What is there and known before, what this part says of itself (its first error, or its text), what is there and known now. -/
def OutW (f : Int) (t : List Int) (L : List Int) (e : Int) (L' : List Int) (e' : Int) : Prop :=
  (e ≠ 0 → e' = e) ∧ (e = 0 → (f ≠ 0 → e' = f) ∧ (f = 0 → e' = 0 ∧ L' = L ++ t))
theorem OutW.seq {f g e e1 e2 : Int} {t u L L1 L2 : List Int} (h : OutW f t L e L1 e1) (k : OutW g u L1 e1 L2 e2) : OutW (fstE f g) (t ++ u) L e L2 e2 := by
  refine ⟨fun he => ?_, fun he => ⟨fun hf => ?_, fun hf => ?_⟩⟩
  · have h1 := h.1 he
    rw [← h1] at he ⊢
    exact k.1 he
  · by_cases f0 : f = 0
    · subst f0
      obtain ⟨h1, h2⟩ := (h.2 he).2 rfl
      rw [fstE_zero] at hf ⊢
      exact (k.2 h1).1 hf
    · rw [fstE_ne f0]
      have h1 := (h.2 he).1 f0
      rw [k.1 (by rw [h1]; exact f0), h1]
  · obtain ⟨f0, g0⟩ := fstE_eq hf
    subst f0 g0
    obtain ⟨h1, h2⟩ := (h.2 he).2 rfl
    obtain ⟨k1, k2⟩ := (k.2 h1).2 rfl
    exact ⟨k1, by rw [k2, h2, List.append_assoc]⟩
theorem OutW.need (b : Bool) (err : Int) (L : List Int) (e : Int) (he : err ≠ 0) : OutW (if b then 0 else err) [] L e L (mNeed b err e) := by
  unfold mNeed
  cases b
  · refine ⟨fun h => fstE_ne h _, fun h => ⟨fun _ => ?_, fun h2 => absurd h2 he⟩⟩
    subst h
    exact fstE_zero _
  · exact ⟨fun _ => rfl, fun h => ⟨fun h2 => absurd rfl h2, fun _ => ⟨h, (List.append_nil _).symm⟩⟩⟩
theorem OutW.put (t L : List Int) (e : Int) : OutW 0 t L e (if e = 0 then L ++ t else L) e := by
  refine ⟨fun _ => rfl, fun h => ⟨fun h2 => absurd rfl h2, fun _ => ⟨h, by rw [if_pos h]⟩⟩⟩
theorem OutW.as {f g e e' : Int} {t u L L' : List Int} (h : OutW f t L e L' e') (hf : f = g) (ht : g = 0 → t = u) : OutW g u L e L' e' := by
  subst hf
  refine ⟨h.1, fun he => ⟨(h.2 he).1, fun h0 => ?_⟩⟩
  rw [← ht h0]
  exact (h.2 he).2 h0
/-- Behind an error all else is of no matter. -/
theorem OutW.stop {f g e e' : Int} {t u L L' : List Int} (h : OutW f t L e L' e') (he : e' ≠ 0) : OutW (fstE f g) u L e L' e' := by
  refine ⟨h.1, fun h0 => ?_⟩
  have hf : f ≠ 0 := fun f0 => he ((h.2 h0).2 f0).1
  rw [fstE_ne hf]
  exact ⟨(h.2 h0).1, fun f0 => absurd f0 hf⟩
/-- The first error of all. -/
def fAll {α : Type} (f : α → Int) : List α → Int
  | [] => 0
  | x :: r => fstE (f x) (fAll f r)
theorem fstE_assoc (a b c : Int) : fstE (fstE a b) c = fstE a (fstE b c) := by
  unfold fstE
  by_cases h : a = 0
  · simp [h]
  · simp [h]
theorem fAll_app {α : Type} (f : α → Int) : ∀ (L M : List α), fAll f (L ++ M) = fstE (fAll f L) (fAll f M)
  | [], M => by rw [List.nil_append, fAll, fstE_zero]
  | x :: L, M => by rw [List.cons_append, fAll, fAll, fAll_app f L M, fstE_assoc]
theorem fAll_one {α : Type} (f : α → Int) (L : List α) (x : α) : fAll f (L ++ [x]) = fstE (fAll f L) (f x) := by
  rw [fAll_app]
  congr 1
  unfold fAll fAll fstE
  split
  · rename_i h
    rw [h]
  · rfl
theorem fAll_zero {α : Type} (f : α → Int) : ∀ (L : List α), fAll f L = 0 ↔ ∀ x ∈ L, f x = 0
  | [] => by simp [fAll]
  | x :: L => by
    rw [fAll]
    constructor
    · intro h
      obtain ⟨h1, h2⟩ := fstE_eq h
      intro y hy
      rcases List.mem_cons.1 hy with rfl | hy
      · exact h1
      · exact (fAll_zero f L).1 h2 y hy
    · intro h
      rw [h x (by simp), fstE_zero]
      exact (fAll_zero f L).2 fun y hy => h y (by simp [hy])
theorem fAll_split {α : Type} (f : α → Int) (L : List α) (i : Nat) : fAll f L = fstE (fAll f (L.take i)) (fAll f (L.drop i)) := by
  rw [← fAll_app, List.take_append_drop]
/-- What a count says of itself, and a list. -/
def fCnt (n : Nat) (most : Int) : Int := if (n : Int) ≤ most then 0 else 2
def fList {α : Type} (most : Int) (f : α → Int) (L : List α) : Int := fstE (fCnt L.length most) (fAll f L)
def fNum (n : Int) : Int := if 0 ≤ n ∧ n ≤ 4294967295 then 0 else 1
def fPla (n : Int) : Int := if -2147483648 ≤ n ∧ n ≤ 2147483647 then 0 else 1
def fVal (_ : Int) : Int := 0
def fCal (c : CalV) : Int := fstE (fNum c.1) (fstE (fNum c.2.1) (fstE (fList 20 fVal c.2.2.1) (fList 200 fVal c.2.2.2)))
def fSta (s : StaV) : Int := fstE (fNum s.1) (fList 40 fCal s.2)
/-- As the program goes through an image. -/
def fImgP (x : ImgV) : Int := fstE (fCnt x.1.length 2048) (fstE (fList 16 fPla x.2.1) (fList 8 fVal x.2.2))
theorem fCnt_zero (n : Nat) (most : Int) : fCnt n most = 0 ↔ (n : Int) ≤ most := by
  unfold fCnt
  split
  · rename_i h; exact ⟨fun _ => h, fun _ => rfl⟩
  · rename_i h; exact ⟨fun h2 => absurd h2 (by decide), fun h2 => absurd h2 h⟩
theorem fNum_zero (n : Int) : fNum n = 0 ↔ isNum n := by
  unfold fNum isNum
  split
  · rename_i h; exact ⟨fun _ => h, fun _ => rfl⟩
  · rename_i h; exact ⟨fun h2 => absurd h2 (by decide), fun h2 => absurd h2 h⟩
theorem fPla_zero (n : Int) : fPla n = 0 ↔ isSgn 32 n := by
  unfold fPla isSgn
  split
  · rename_i h; exact ⟨fun _ => Or.inl ⟨rfl, h⟩, fun _ => rfl⟩
  · rename_i h
    refine ⟨fun h2 => absurd h2 (by decide), fun h2 => ?_⟩
    rcases h2 with ⟨_, h2⟩ | ⟨h2, _⟩
    · exact absurd h2 h
    · exact absurd h2 (by decide)
theorem fList_zero {α : Type} (most : Int) (f : α → Int) (L : List α) : fList most f L = 0 ↔ (L.length : Int) ≤ most ∧ ∀ x ∈ L, f x = 0 := by
  unfold fList
  constructor
  · intro h
    obtain ⟨h1, h2⟩ := fstE_eq h
    exact ⟨(fCnt_zero _ _).1 h1, (fAll_zero f L).1 h2⟩
  · rintro ⟨h1, h2⟩
    rw [(fCnt_zero _ _).2 h1, fstE_zero]
    exact (fAll_zero f L).2 h2
/-- Numbers of 64 bits. -/
def All64 (L : List Int) : Prop := ∀ x ∈ L, -9223372036854775808 ≤ x ∧ x ≤ 9223372036854775807
theorem vals_ok (most : Int) (L : List Int) (h : fList most fVal L = 0) (h6 : All64 L) : GVals 64 most L := by
  obtain ⟨h1, _⟩ := (fList_zero most fVal L).1 h
  exact ⟨h1, fun a ha => Or.inr ⟨rfl, h6 a ha⟩⟩
theorem pla_ok (most : Int) (L : List Int) (h : fList most fPla L = 0) : GVals 32 most L := by
  obtain ⟨h1, h2⟩ := (fList_zero most fPla L).1 h
  exact ⟨h1, fun a ha => (fPla_zero a).1 (h2 a ha)⟩
theorem fstE_or (a b : Int) (ha : a = 0 ∨ a = 1 ∨ a = 2) (hb : b = 0 ∨ b = 1 ∨ b = 2) : fstE a b = 0 ∨ fstE a b = 1 ∨ fstE a b = 2 := by
  unfold fstE
  split
  · exact hb
  · exact ha
theorem fCnt_or (n : Nat) (m : Int) : fCnt n m = 0 ∨ fCnt n m = 1 ∨ fCnt n m = 2 := by unfold fCnt; split <;> simp
theorem fNum_or (n : Int) : fNum n = 0 ∨ fNum n = 1 ∨ fNum n = 2 := by unfold fNum; split <;> simp
theorem fPla_or (n : Int) : fPla n = 0 ∨ fPla n = 1 ∨ fPla n = 2 := by unfold fPla; split <;> simp
theorem fAll_or {α : Type} (f : α → Int) (hf : ∀ x, f x = 0 ∨ f x = 1 ∨ f x = 2) : ∀ L : List α, fAll f L = 0 ∨ fAll f L = 1 ∨ fAll f L = 2
  | [] => Or.inl rfl
  | x :: L => by rw [fAll]; exact fstE_or _ _ (hf x) (fAll_or f hf L)
theorem fList_or {α : Type} (most : Int) (f : α → Int) (hf : ∀ x, f x = 0 ∨ f x = 1 ∨ f x = 2) (L : List α) : fList most f L = 0 ∨ fList most f L = 1 ∨ fList most f L = 2 := fstE_or _ _ (fCnt_or _ _) (fAll_or f hf L)
theorem fVal_or (n : Int) : fVal n = 0 ∨ fVal n = 1 ∨ fVal n = 2 := Or.inl rfl
theorem fCal_or (c : CalV) : fCal c = 0 ∨ fCal c = 1 ∨ fCal c = 2 := fstE_or _ _ (fNum_or _) (fstE_or _ _ (fNum_or _) (fstE_or _ _ (fList_or _ _ fVal_or _) (fList_or _ _ fVal_or _)))
theorem fSta_or (s : StaV) : fSta s = 0 ∨ fSta s = 1 ∨ fSta s = 2 := fstE_or _ _ (fNum_or _) (fList_or _ _ fCal_or _)
theorem fImgP_or (x : ImgV) : fImgP x = 0 ∨ fImgP x = 1 ∨ fImgP x = 2 := fstE_or _ _ (fCnt_or _ _) (fstE_or _ _ (fList_or _ _ fPla_or _) (fList_or _ _ fVal_or _))
/-- Values of 64 bits everywhere. -/
def Cal64 (c : CalV) : Prop := All64 c.2.2.1 ∧ All64 c.2.2.2
def Img64 (x : ImgV) : Prop := Bts x.1 ∧ All64 x.2.2
def Sta64 (s : StaV) : Prop := ∀ c ∈ s.2, Cal64 c
theorem cal_zero (c : CalV) (h6 : Cal64 c) : fCal c = 0 ↔ GCal c := by
  constructor
  · intro h
    obtain ⟨h1, h⟩ := fstE_eq h
    obtain ⟨h2, h⟩ := fstE_eq h
    obtain ⟨h3, h4⟩ := fstE_eq h
    exact ⟨(fNum_zero _).1 h1, (fNum_zero _).1 h2, vals_ok _ _ h3 h6.1, vals_ok _ _ h4 h6.2⟩
  · rintro ⟨h1, h2, h3, h4⟩
    unfold fCal
    rw [(fNum_zero _).2 h1, fstE_zero, (fNum_zero _).2 h2, fstE_zero, (fList_zero 20 fVal _).2 ⟨h3.1, fun _ _ => rfl⟩, fstE_zero, (fList_zero 200 fVal _).2 ⟨h4.1, fun _ _ => rfl⟩]
theorem sta_zero (s : StaV) (h6 : Sta64 s) : fSta s = 0 ↔ GSta s := by
  constructor
  · intro h
    obtain ⟨h1, h⟩ := fstE_eq h
    obtain ⟨h2, h3⟩ := (fList_zero 40 fCal _).1 h
    exact ⟨(fNum_zero _).1 h1, h2, fun c hc => (cal_zero c (h6 c hc)).1 (h3 c hc)⟩
  · rintro ⟨h1, h2, h3⟩
    unfold fSta
    rw [(fNum_zero _).2 h1, fstE_zero, (fList_zero 40 fCal _).2 ⟨h2, fun c hc => (cal_zero c (h6 c hc)).2 (h3 c hc)⟩]
theorem imgP_zero (x : ImgV) (h6 : Img64 x) : fImgP x = 0 ↔ GImg x := by
  constructor
  · intro h
    obtain ⟨h1, h⟩ := fstE_eq h
    obtain ⟨h2, h3⟩ := fstE_eq h
    exact ⟨⟨(fCnt_zero _ _).1 h1, h6.1⟩, pla_ok _ _ h2, vals_ok _ _ h3 h6.2⟩
  · rintro ⟨h1, h2, h3⟩
    unfold fImgP
    rw [(fCnt_zero _ _).2 h1.1, fstE_zero, (fList_zero 16 fPla _).2 ⟨h2.1, fun a ha => (fPla_zero a).2 (h2.2 a ha)⟩, fstE_zero, (fList_zero 8 fVal _).2 ⟨h3.1, fun _ _ => rfl⟩]
/-- How long a text may be. -/
theorem flat_lenK {α : Type} (t : α → List Int) (C : Nat) : ∀ (L : List α), (∀ x ∈ L, (t x).length ≤ C) → (L.flatMap t).length ≤ C * L.length
  | [], _ => by simp
  | x :: L, h => by
    have h1 := h x (by simp)
    have h2 := flat_lenK t C L fun y hy => h y (by simp [hy])
    rw [List.flatMap_cons, List.length_append, List.length_cons, Nat.mul_add]
    omega
theorem vals_len (B most : Int) (hm : most ≤ 200) (L : List Int) (h : GVals B most L) : (tList sB L).length ≤ 2010 := by
  have h1 := uB_len64 L.length (by have := h.1; omega)
  have h2 := flat_lenK sB 10 L fun x hx => by
    rcases h.2 x hx with ⟨_, a, b⟩ | ⟨_, a, b⟩
    · exact sB_len64 x (by omega) (by omega)
    · exact sB_len64 x a b
  have h3 := h.1
  unfold tList
  rw [List.length_append]
  omega
theorem num_len (n : Int) (h : isNum n) : (uB n.toNat).length ≤ 10 := uB_len64 _ (by have := h.2; omega)
theorem tShot_len (p : ImgV × StaV) (h : GShot p) : (tShot p).length ≤ 100000000 := by
  obtain ⟨⟨⟨m1, m2⟩, m3, m4⟩, s1, s2, s3⟩ := h
  have a1 := vals_len 32 16 (by decide) _ m3
  have a2 := vals_len 64 8 (by decide) _ m4
  have a3 := num_len _ s1
  have a4 := flat_lenK tCal 5000 p.2.2 fun c hc => by
    obtain ⟨c1, c2, c3, c4⟩ := s3 c hc
    have b1 := num_len _ c1
    have b2 := num_len _ c2
    have b3 := vals_len 64 20 (by decide) _ c3
    have b4 := vals_len 64 200 (by decide) _ c4
    unfold tCal
    rw [List.length_append, List.length_append, List.length_append]
    omega
  have a5 := uB_len64 p.1.1.length (by omega)
  have a6 := uB_len64 p.2.2.length (by omega)
  unfold tShot tImg tSta tBytes
  rw [List.length_append, List.length_append, List.length_append, List.length_append, List.length_append]
  unfold tList at a1 a2 ⊢
  rw [List.length_append] at a1 a2 ⊢
  rw [List.length_append, List.length_append]
  omega
end Go.Proofs.Ytfmmefmpjejioaa
