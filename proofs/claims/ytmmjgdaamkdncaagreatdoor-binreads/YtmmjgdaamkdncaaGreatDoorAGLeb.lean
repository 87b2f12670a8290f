import Derived.Laws.Bits128
import Derived.Laws.BitsAllLaws
import Derived.Laws.BytesArg
import Derived.Laws.ShiftsVarLaws
import Derived.Test.YtmmjgdaamkdncaaGreatDoorRows
import Derived.WalkKit
import Derived.WalkSpells
import Derived.Deep.QuietTactic
import Derived.BigQuiet
import Derived.Lib.Strings
import Derived.Laws.Concat
import Derived.Test.YtmmjgdaamkdncaaGreatDoorAHd
namespace Go.Proofs.YtmmjgdaamkdncaaGreatDoor
set_option maxHeartbeats 1000000
set_option maxRecDepth 1000000
set_option linter.unusedVariables false
def uBf : Nat -> Nat -> List Int
 | 0,_ => []
 | f + 1,n => if n < 128 then [(n : Int)] else (((n % 128 : Nat) : Int) + 128) :: uBf f (n / 128)
def uB (n : Nat) : List Int := uBf (n + 1) n
theorem xqE : ∀ (f g n : Nat),n < f -> n < g -> uBf f n = uBf g n
 | 0,_,_,h,_ => by omega
 | _ + 1,0,_,_,h => by omega
 | f + 1,g + 1,n,h1,h2 => by
  by_cases h : n < 128
  ·simp [uBf,h]
  ·simp [uBf,h,xqE f g (n / 128) (by omega) (by omega)]
def sBf : Nat -> Int -> List Int
 | 0,_ => []
 | f + 1,n => if -64 <= n /\ n < 64 then [n % 128] else (n % 128 + 128) :: sBf f (n / 128)
def sB (n : Int) : List Int := sBf (n.natAbs + 1) n
theorem xrU : ∀ (f g : Nat) (n : Int),n.natAbs < f -> n.natAbs < g -> sBf f n = sBf g n
 | 0,_,_,h,_ => by omega
 | _ + 1,0,_,_,h => by omega
 | f + 1,g + 1,n,h1,h2 => by
  by_cases h : -64 <= n /\ n < 64
  ·simp [sBf,h]
  ·simp [sBf,h,xrU f g (n / 128) (by omega) (by omega)]
theorem ycU {n : Nat} (h : n < 128) : uB n = [(n : Int)] := by simp [uB,uBf,h]
theorem yfA {n : Nat} (h : ¬ n < 128) : uB n = (((n % 128 : Nat) : Int) + 128) :: uB (n / 128) := by
 have e := xqE n (n / 128 + 1) (n / 128) (by omega) (by omega)
 simp [uB,uBf,h,e]
theorem ycJ {n : Int} (h : -64 <= n /\ n < 64) : sB n = [n % 128] := by simp [sB,sBf,h]
theorem ygG {n : Int} (h : ¬ (-64 <= n /\ n < 64)) : sB n = (n % 128 + 128) :: sB (n / 128) := by
 have e := xrU n.natAbs ((n / 128).natAbs + 1) (n / 128) (by omega) (by omega)
 simp [sB,sBf,h,e]
theorem ybM (k : Nat) : ∀ n : Nat,n < 128 ^ (k + 1) -> (uB n).length <= k + 1 := by
 induction k with
 | zero => intro n h; simp at h; simp [ycU h]
 | succ k ih =>
  intro n h
  by_cases hn : n < 128
  ·simp [ycU hn]
  ·rw [yfA hn]
   have : n / 128 < 128 ^ (k + 1) := by
    rw [Nat.pow_succ 128 (k + 1)] at h
    exact Nat.div_lt_of_lt_mul (by rw [Nat.mul_comm]; exact h)
   have := ih _ this
   simp; omega
theorem ybL (k : Nat) : ∀ n : Int,-(64 * 128 ^ k) <= n -> n < 64 * 128 ^ k -> (sB n).length <= k + 1 := by
 induction k with
 | zero => intro n h1 h2; simp at h1 h2; simp [ycJ ⟨h1,h2⟩]
 | succ k ih =>
  intro n h1 h2
  by_cases hn : -64 <= n /\ n < 64
  ·simp [ycJ hn]
  ·rw [ygG hn]
   rw [Int.pow_succ] at h1 h2
   have := ih (n / 128) (by omega) (by omega)
   simp; omega
def xaX (s : ByteArray) : List Int := s.data.toList.map fun b => (b.toNat : Int)
theorem xaY (s : ByteArray) : (xaX s).length = s.size := by
 rw [xaX,List.length_map,Array.length_toList]; rfl
theorem xeZ (s : ByteArray) (k : Nat) (h : k < s.size) : (xaX s).drop k = (s[k].toNat : Int) :: (xaX s).drop (k + 1) := by
 have hl : k < (xaX s).length := by rw [xaY]; exact h
 rw [List.drop_eq_getElem_cons hl]
 congr 1
 simp only [xaX,List.getElem_map]
 rfl
theorem xaE (s : ByteArray) : ∀ b ∈ xaX s,0 <= b /\ b < 256 := by
 intro b hb
 simp only [xaX,List.mem_map] at hb
 obtain ⟨c,_,rfl⟩ := hb
 have := c.toNat_lt
 omega
theorem xhB (m : Nat) (h : m < 256) : bits .and .u8 (m : Int) 127 = ((m % 128 : Nat) : Int) := by
 have := u8_and_nat m 127 (by omega) (by omega)
 rw [show (m &&& 127) = m % 128 from Nat.and_two_pow_sub_one_eq_mod m 7] at this
 exact this
theorem xoS (k : Nat) : (128 : Nat) ^ k = 2 ^ (7 * k) := by rw [Nat.pow_mul]
theorem xcK (n : Int) (k b : Nat) (h0 : 0 <= n) (h1 : n < 128 ^ k) (hk : k <= 9) :
  bits .or .u64 n (IntKind.u64.wrap ((b : Int) % 128 * 2 ^ (7 * k))) = (n + (b : Int) % 128 * 128 ^ k) % 18446744073709551616 := by
 obtain ⟨N,rfl⟩ : ∃ N : Nat,n = N := ⟨n.toNat,by omega⟩
 obtain ⟨a,ha⟩ : ∃ a : Nat,b % 128 = a := ⟨_,rfl⟩
 have hab : (b : Int) % 128 = (a : Int) := by omega
 rw [hab]
 have hN : N < 2 ^ (7 * k) := by rw [<- xoS]; exact_mod_cast h1
 have hM : (2 : Nat) ^ 64 = 2 ^ (7 * k) * 2 ^ (64 - 7 * k) := by rw [<- Nat.pow_add]; congr 1; omega
 have e1 : IntKind.u64.wrap ((a : Int) * 2 ^ (7 * k)) = ((2 ^ (7 * k) * (a % 2 ^ (64 - 7 * k)) : Nat) : Int) := by
  have : IntKind.u64.wrap ((a : Int) * 2 ^ (7 * k)) = (a : Int) * 2 ^ (7 * k) % 18446744073709551616 := by
   simp [IntKind.wrap,IntKind.bits,IntKind.signed]
  rw [this]
  have h2 : a * 2 ^ (7 * k) % 2 ^ 64 = 2 ^ (7 * k) * (a % 2 ^ (64 - 7 * k)) := by
   rw [hM,Nat.mul_comm a,Nat.mul_mod_mul_left]
  rw [<- h2,Int.natCast_emod,Int.natCast_mul,Int.natCast_pow]
  rfl
 have hlt : 2 ^ (7 * k) * (a % 2 ^ (64 - 7 * k)) + N < 2 ^ 64 := by
  have hm : a % 2 ^ (64 - 7 * k) + 1 <= 2 ^ (64 - 7 * k) := Nat.mod_lt _ (Nat.two_pow_pos _)
  have := Nat.mul_le_mul_left (2 ^ (7 * k)) hm
  rw [<- hM,Nat.mul_add] at this
  omega
 rw [e1,u64_or_nat N _ (by omega) (by omega),Nat.or_comm,<- Nat.two_pow_add_eq_or_of_lt hN]
 have e2 : (N + a * 128 ^ k) % 2 ^ 64 = 2 ^ (7 * k) * (a % 2 ^ (64 - 7 * k)) + N := by
  rw [xoS,hM,Nat.mod_mul,Nat.add_mul_mod_self_right,Nat.mod_eq_of_lt hN,Nat.add_mul_div_right _ _ (Nat.two_pow_pos _),Nat.div_eq_of_lt hN]
  simp [Nat.add_comm]
 rw [<- e2,Int.natCast_emod,Int.natCast_add,Int.natCast_mul,Int.natCast_pow]
 rfl
theorem xjR (n : Int) (k b : Nat) (h0 : 0 <= n) (h1 : n < 128 ^ k) (hk : k <= 8) :
  (n + (b : Int) % 128 * 128 ^ k) % 18446744073709551616 = n + (b : Int) % 128 * 128 ^ k /\ 0 <= n + (b : Int) % 128 * 128 ^ k /\ n + (b : Int) % 128 * 128 ^ k < 128 ^ (k + 1) := by
 have hp : (0 : Int) < 128 ^ k := Int.pow_pos (by omega)
 obtain ⟨a,ha⟩ : ∃ a : Int,(b : Int) % 128 = a := ⟨_,rfl⟩
 have a0 : 0 <= a := by omega
 have a1 : a <= 127 := by omega
 rw [ha]
 have m0 : 0 <= a * 128 ^ k := Int.mul_nonneg a0 (by omega)
 have m1 : a * 128 ^ k <= 127 * 128 ^ k := Int.mul_le_mul_of_nonneg_right a1 (by omega)
 have hlt : n + a * 128 ^ k < 128 ^ (k + 1) := by rw [Int.pow_succ]; omega
 have hle : (128 : Int) ^ (k + 1) <= 128 ^ 9 := by
  exact_mod_cast Nat.pow_le_pow_right (by omega : 0 < 128) (by omega : k + 1 <= 9)
 refine ⟨Int.emod_eq_of_lt (by omega) (by omega),by omega,hlt⟩
def xeV (b room : Int) : Bool := b / 2 ^ room.toNat == 0
def xdY (b room : Int) : Bool := b / 2 ^ (room.toNat - 1) == 0 || b / 2 ^ (room.toNat - 1) == 127 / 2 ^ (room.toNat - 1)
def rdl (fit : Int -> Int -> Bool) (B : Int) : List Int -> Nat -> Int -> Int × Int × Int
 | [],_,_ => (0,0,3)
 | b :: r,k,n =>
  if B - 7 * (k : Int) <= 7 /\ (128 <= b \/ fit b (B - 7 * (k : Int)) = false) then (0,0,4)
  else if b < 128 then (n + b * 128 ^ k,(k : Int) + 1,0)
  else rdl fit B r (k + 1) (n + (b - 128) * 128 ^ k)
theorem xdT {fit : Int -> Int -> Bool} {B b n : Int} {r : List Int} {k : Nat} (h1 : B - 7 * (k : Int) <= 7) (h2 : 128 <= b \/ fit b (B - 7 * (k : Int)) = false) :
  rdl fit B (b :: r) k n = (0,0,4) := by
 rw [rdl,if_pos ⟨h1,h2⟩]
theorem xdK {fit : Int -> Int -> Bool} {B b n : Int} {r : List Int} {k : Nat} (h1 : B - 7 * (k : Int) <= 7 -> fit b (B - 7 * (k : Int)) = true) (h2 : b < 128) :
  rdl fit B (b :: r) k n = (n + b * 128 ^ k,(k : Int) + 1,0) := by
 rw [rdl,if_neg (by rintro ⟨h3,h4 | h4⟩ <;> first | omega | (rw [h1 h3] at h4; cases h4)),if_pos h2]
theorem xhP {fit : Int -> Int -> Bool} {B b n : Int} {r : List Int} {k : Nat} (h1 : ¬ B - 7 * (k : Int) <= 7) (h2 : ¬ b < 128) :
  rdl fit B (b :: r) k n = rdl fit B r (k + 1) (n + (b - 128) * 128 ^ k) := by
 rw [rdl,if_neg (fun h => h1 h.1),if_neg h2]
def val : List Int -> Int
 | [] => 0
 | b :: r => b % 128 + 128 * val r
theorem xgW : ∀ (f g : List Int),val (f ++ g) = val f + val g * 128 ^ f.length
 | [],g => by simp [val]
 | b :: f,g => by
  rw [List.cons_append,val,val,xgW f g,List.length_cons,Int.pow_succ,Int.mul_add,<- Int.add_assoc,Int.mul_comm (128 ^ f.length) 128,Int.mul_left_comm 128 (val g)]
theorem xcY : ∀ (f : List Int),0 <= val f /\ val f < 128 ^ f.length
 | [] => by simp [val]
 | b :: f => by
  have := xcY f
  rw [val,List.length_cons,Int.pow_succ]
  omega
theorem xhQ {fit : Int -> Int -> Bool} {B : Int} (t : List Int) : ∀ (f : List Int) (k : Nat) (n : Int),(∀ b ∈ f,128 <= b /\ b < 256) -> 7 * ((k : Int) + f.length) < B ->
  rdl fit B (f ++ t) k n = rdl fit B t (k + f.length) (n + val f * 128 ^ k)
 | [],k,n,_,_ => by simp [val]
 | b :: f,k,n,h,hB => by
  have hb := h b (by simp)
  simp only [List.length_cons] at hB
  rw [List.cons_append,xhP (by omega) (by omega),xhQ t f (k + 1) _ (fun x hx => h x (by simp [hx])) (by omega)]
  rw [val,Int.pow_succ,List.length_cons]
  have e1 : k + 1 + f.length = k + (f.length + 1) := by omega
  have e2 : b % 128 = b - 128 := by omega
  have e3 : n + (b - 128) * 128 ^ k + val f * (128 ^ k * 128) = n + (b - 128 + 128 * val f) * 128 ^ k := by
   rw [Int.add_mul,Int.add_assoc,Int.mul_comm (128 ^ k) 128,Int.mul_comm 128 (val f),Int.mul_assoc]
  rw [e1,e2,e3]
theorem xfJ {fit : Int -> Int -> Bool} {B : Int} (f : List Int) (h : ∀ b ∈ f,128 <= b /\ b < 256) (hB : 7 * (f.length : Int) < B) : rdl fit B f 0 0 = (0,0,3) := by
 have := xhQ (fit := fit) (B := B) [] f 0 0 h (by simpa using hB)
 rw [List.append_nil] at this
 rw [this]; rfl
theorem xgU {fit : Int -> Int -> Bool} {B : Int} (f t : List Int) (h : ∀ b ∈ f,128 <= b /\ b < 256) (m : Nat) (hm : f.length = m + 1) (hB : 7 * (m : Int) < B) (hB2 : B <= 7 * (m : Int) + 7) : rdl fit B (f ++ t) 0 0 = (0,0,4) := by
 have hl : (f.take m).length = m := by rw [List.length_take]; omega
 have hs : f = f.take m ++ f.drop m := (List.take_append_drop m f).symm
 obtain ⟨b,hb⟩ : ∃ b,f.drop m = [b] := by
  have : (f.drop m).length = 1 := by rw [List.length_drop]; omega
  exact List.length_eq_one_iff.1 this
 have hbm : b ∈ f := List.mem_of_mem_drop (i := m) (by rw [hb]; simp)
 rw [hs,hb,List.append_assoc,xhQ _ _ 0 0 (fun x hx => h x (List.mem_of_mem_take hx)) (by rw [hl]; simpa using hB)]
 exact xdT (by rw [hl]; simp; omega) (.inl (h b hbm).1)
theorem xkT {fit : Int -> Int -> Bool} {B : Int} (f t : List Int) (b : Int) (h : ∀ b ∈ f,128 <= b /\ b < 256) (hB : 7 * (f.length : Int) < B) (hB2 : B <= 7 * (f.length : Int) + 7) (hf : fit b (B - 7 * (f.length : Int)) = false) :
  rdl fit B (f ++ b :: t) 0 0 = (0,0,4) := by
 rw [xhQ _ _ 0 0 h (by simpa using hB)]
 exact xdT (by simp; omega) (.inr (by simpa using hf))
theorem xfY {fit : Int -> Int -> Bool} {B : Int} (f t : List Int) (b : Int) (h : ∀ b ∈ f,128 <= b /\ b < 256) (hb0 : 0 <= b) (hb : b < 128) (hB : 7 * (f.length : Int) < B) (hf : B <= 7 * (f.length : Int) + 7 -> fit b (B - 7 * (f.length : Int)) = true) :
  rdl fit B (f ++ b :: t) 0 0 = (val (f ++ [b]),(f.length : Int) + 1,0) := by
 rw [xhQ _ _ 0 0 h (by simpa using hB),xdK (by intro h; simpa using hf (by simp at h; omega)) hb,xgW]
 have : b % 128 = b := by omega
 simp [val,this]
theorem xdX : ∀ (l : List Int),(∀ b ∈ l,0 <= b /\ b < 256) -> ∃ f,(∀ b ∈ f,128 <= b /\ b < 256) /\ (l = f \/ ∃ b t,l = f ++ b :: t /\ 0 <= b /\ b < 128)
 | [],_ => ⟨[],by simp,.inl rfl⟩
 | b :: l,h => by
  have hb := h b (by simp)
  by_cases h128 : b < 128
  ·exact ⟨[],by simp,.inr ⟨b,l,rfl,hb.1,h128⟩⟩
  ·obtain ⟨f,hf,hc⟩ := xdX l (fun x hx => h x (by simp [hx]))
   refine ⟨b :: f,?_,?_⟩
   ·intro x hx
    rcases List.mem_cons.1 hx with rfl | hx
    ·omega
    ·exact hf x hx
   ·rcases hc with rfl | ⟨c,t,rfl,hc⟩
    ·exact .inl rfl
    ·exact .inr ⟨c,t,rfl,hc⟩
theorem xyA (n : Nat) : ∃ f b,uB n = f ++ [b] /\ (∀ x ∈ f,128 <= x /\ x < 256) /\ 0 <= b /\ b < 128 /\ val (f ++ [b]) = n := by
 induction n using Nat.strongRecOn with
 | ind n ih =>
  by_cases h : n < 128
  ·exact ⟨[],(n : Int),ycU h,by simp,by omega,by omega,by simp [val]; omega⟩
  ·obtain ⟨f,b,h1,h2,h3,h4,h5⟩ := ih (n / 128) (by omega)
   refine ⟨(((n % 128 : Nat) : Int) + 128) :: f,b,by rw [yfA h,h1]; rfl,?_,h3,h4,?_⟩
   ·intro x hx
    rcases List.mem_cons.1 hx with rfl | hx
    ·omega
    ·exact h2 x hx
   ·rw [List.cons_append,val,h5]; omega
theorem xzL (f0 : Nat) : ∀ n : Int,n.natAbs < f0 -> ∃ f b,sB n = f ++ [b] /\ (∀ x ∈ f,128 <= x /\ x < 256) /\ 0 <= b /\ b < 128 /\ val (f ++ [b]) = n + (if 64 <= b then 128 ^ (f.length + 1) else 0) := by
 induction f0 with
 | zero => intro n h; omega
 | succ f0 ih =>
  intro n hn
  by_cases h : -64 <= n /\ n < 64
  ·refine ⟨[],n % 128,ycJ h,by simp,by omega,by omega,?_⟩
   simp only [List.nil_append,val,List.length_nil]
   split <;> omega
  ·obtain ⟨f,b,h1,h2,h3,h4,h5⟩ := ih (n / 128) (by omega)
   refine ⟨(n % 128 + 128) :: f,b,by rw [ygG h,h1]; rfl,?_,h3,h4,?_⟩
   ·intro x hx
    rcases List.mem_cons.1 hx with rfl | hx
    ·omega
    ·exact h2 x hx
   ·rw [List.cons_append,val,h5,List.length_cons,Int.pow_succ 128 (f.length + 1)]
    split <;> omega
open Go.RowKit
theorem xvL {b c : Bool} (h : b = c) : Ending.returned (.bool b) = .returned (.bool c) := by rw [h]
theorem xdR {k l j : IntKind} {a a' b b' c c' : Int} (h1 : a = a') (h2 : b = b') (h3 : c = c') : Ending.returned (.tuple #[.int k a,.int l b,.int j c]) = .returned (.tuple #[.int k a',.int l b',.int j c']) := by rw [h1,h2,h3]
theorem xnW (b room : Int) (c : Bool) (_h0 : 0 <= b) (_h1 : b < 256) (h2 : 0 <= room) (h3 : room <= 7) (h : Hid (xeV b room = c)) (w : World) :
  Calls Tryz.prog 91 #[.int .u8 b,.int .i64 room] w fun e w' => e = .returned (.bool c) /\ w' = w := by
 go_enter Tryz.func91,Tryz.ntmps91
 go_wp2
 go_ret
 exact ⟨xvL h.out,rfl⟩
theorem xnV (b room : Int) (c : Bool) (_h0 : 0 <= b) (_h1 : b < 256) (h2 : 1 <= room) (h3 : room <= 7) (h : Hid (xdY b room = c)) (w : World) :
  Calls Tryz.prog 103 #[.int .u8 b,.int .i64 room] w fun e w' => e = .returned (.bool c) /\ w' = w := by
 go_enter Tryz.func103,Tryz.ntmps103
 go_wp2
 ·go_ret
  refine ⟨xvL ?_,rfl⟩
  rw [<- h.out,xdY,‹b / 2 ^ (room.toNat - 1) = 0›]; simp
 ·go_ret
  exact ⟨xvL h.out,rfl⟩
theorem ycD (s : ByteArray) (hs : s.size <= maxLen) (w : World) :
  Calls Tryz.prog 90 #[.string s,.int .i64 32,.func (.func 91) #[] #[]] w fun e w' => e = .returned (.tuple #[.int .u64 ((rdl xeV 32 (xaX s) 0 0).1 % 18446744073709551616),.int .i64 (rdl xeV 32 (xaX s) 0 0).2.1,.int .i64 (rdl xeV 32 (xaX s) 0 0).2.2]) /\ w' = w := by
 unfold maxLen at hs
 obtain ⟨R,hR⟩ : ∃ R,rdl xeV 32 (xaX s) 0 0 = R := ⟨_,rfl⟩
 rw [hR]
 have HR : Hid (rdl xeV 32 (xaX s) 0 0 = R) := hR
 clear hR
 go_enter Tryz.func90,Tryz.ntmps90
 go_wp2
 go_loop [9,21] (fun t i => ∃ k : Nat,∃ n : Int,i = .int .i64 k /\ t = .int .u64 n /\ k <= s.size /\ 7 * (k : Int) < 32 /\ 0 <= n /\ n < 128 ^ k /\ Hid (rdl xeV 32 ((xaX s).drop k) k n = R)) (fun _ i => s.size - (intOf i).toNat)
 case atStart => exact ⟨0,0,rfl,rfl,by omega,by omega,by omega,by omega,by simpa using HR⟩
 case round =>
  obtain ⟨k,n,rfl,rfl,hk,hk7,hn0,hn1,H⟩ := hrel
  by_cases hlt : k < s.size
  ·have hd : Hid (rdl xeV 32 ((s[k].toNat : Int) :: (xaX s).drop (k + 1)) k n = R) := by unfold Hid; rw [<- xeZ s k hlt]; exact H
   clear H HR
   have hb : s[k].toNat < 256 := s[k].toNat_lt
   have hand := xhB s[k].toNat hb
   by_cases h7 : 32 - 7 * (k : Int) <= 7
   ·by_cases h128 : 128 <= (s[k].toNat : Int)
    ·go_wp2
     go_ret3
     rw [xdT h7 (.inl h128)] at hd
     exact ⟨by rw [<- hd.out]; rfl,rfl⟩
    ·cases hf : xeV (s[k].toNat : Int) (32 - 7 * (k : Int)) with
     | false =>
      have HF : Hid (xeV (s[k].toNat : Int) (32 - 7 * (k : Int)) = false) := hf
      clear hf
      go_wp2_with (go_at_call 91; refine (xnW _ _ _ (by omega) (by omega) (by omega) (by omega) HF _).mono ?_; rintro e w' ⟨rfl,rfl⟩)
      go_ret3
      rw [xdT h7 (.inr HF.out)] at hd
      exact ⟨by rw [<- hd.out]; rfl,rfl⟩
     | true =>
      have HF : Hid (xeV (s[k].toNat : Int) (32 - 7 * (k : Int)) = true) := hf
      clear hf
      go_wp2_with (go_at_call 91; refine (xnW _ _ _ (by omega) (by omega) (by omega) (by omega) HF _).mono ?_; rintro e w' ⟨rfl,rfl⟩)
      go_ret3
      have e := hd.out
      rw [xdK (fun _ => HF.out) h128] at e
      rw [<- e]
      exact ⟨xdR (by rw [xcK n k s[k].toNat hn0 hn1 (by omega),Int.emod_eq_of_lt (by omega) h128]) rfl rfl,rfl⟩
   ·by_cases h128 : (s[k].toNat : Int) < 128
    ·go_wp2
     go_ret3
     have e := hd.out
     rw [xdK (fun h => by omega) h128] at e
     rw [<- e]
     exact ⟨xdR (by rw [xcK n k s[k].toNat hn0 hn1 (by omega),Int.emod_eq_of_lt (by omega) h128]) rfl rfl,rfl⟩
    ·have hm := xjR n k s[k].toNat hn0 hn1 (by omega)
     have HE : Hid (bits BinOp.or IntKind.u64 n (IntKind.u64.wrap ((s[k].toNat : Int) % 128 * 2 ^ (7 * k))) = n + (s[k].toNat : Int) % 128 * 128 ^ k) := by
      unfold Hid; rw [xcK n k s[k].toNat hn0 hn1 (by omega)]; exact hm.1
     have HM : Hid _ := hm.2
     clear hm
     go_wp2
     go_round
     case rel =>
      refine ⟨k + 1,_,by go_num,rfl,by omega,by omega,?_⟩
      rw [HE.out]
      refine ⟨HM.out.1,HM.out.2,?_⟩
      have e := hd.out
      rw [xhP h7 h128] at e
      unfold Hid
      rw [show (s[k].toNat : Int) % 128 = (s[k].toNat : Int) - 128 from by omega]
      exact e
     case measure => simp [intOf]; omega
  ·go_wp2
   go_ret3
   have := H.out
   rw [List.drop_eq_nil_of_le (by rw [xaY]; omega)] at this
   exact ⟨by rw [<- this]; rfl,rfl⟩
theorem ycE (s : ByteArray) (hs : s.size <= maxLen) (w : World) :
  Calls Tryz.prog 90 #[.string s,.int .i64 64,.func (.func 91) #[] #[]] w fun e w' => e = .returned (.tuple #[.int .u64 ((rdl xeV 64 (xaX s) 0 0).1 % 18446744073709551616),.int .i64 (rdl xeV 64 (xaX s) 0 0).2.1,.int .i64 (rdl xeV 64 (xaX s) 0 0).2.2]) /\ w' = w := by
 unfold maxLen at hs
 obtain ⟨R,hR⟩ : ∃ R,rdl xeV 64 (xaX s) 0 0 = R := ⟨_,rfl⟩
 rw [hR]
 have HR : Hid (rdl xeV 64 (xaX s) 0 0 = R) := hR
 clear hR
 go_enter Tryz.func90,Tryz.ntmps90
 go_wp2
 go_loop [9,21] (fun t i => ∃ k : Nat,∃ n : Int,i = .int .i64 k /\ t = .int .u64 n /\ k <= s.size /\ 7 * (k : Int) < 64 /\ 0 <= n /\ n < 128 ^ k /\ Hid (rdl xeV 64 ((xaX s).drop k) k n = R)) (fun _ i => s.size - (intOf i).toNat)
 case atStart => exact ⟨0,0,rfl,rfl,by omega,by omega,by omega,by omega,by simpa using HR⟩
 case round =>
  obtain ⟨k,n,rfl,rfl,hk,hk7,hn0,hn1,H⟩ := hrel
  by_cases hlt : k < s.size
  ·have hd : Hid (rdl xeV 64 ((s[k].toNat : Int) :: (xaX s).drop (k + 1)) k n = R) := by unfold Hid; rw [<- xeZ s k hlt]; exact H
   clear H HR
   have hb : s[k].toNat < 256 := s[k].toNat_lt
   have hand := xhB s[k].toNat hb
   by_cases h7 : 64 - 7 * (k : Int) <= 7
   ·by_cases h128 : 128 <= (s[k].toNat : Int)
    ·go_wp2
     go_ret3
     rw [xdT h7 (.inl h128)] at hd
     exact ⟨by rw [<- hd.out]; rfl,rfl⟩
    ·cases hf : xeV (s[k].toNat : Int) (64 - 7 * (k : Int)) with
     | false =>
      have HF : Hid (xeV (s[k].toNat : Int) (64 - 7 * (k : Int)) = false) := hf
      clear hf
      go_wp2_with (go_at_call 91; refine (xnW _ _ _ (by omega) (by omega) (by omega) (by omega) HF _).mono ?_; rintro e w' ⟨rfl,rfl⟩)
      go_ret3
      rw [xdT h7 (.inr HF.out)] at hd
      exact ⟨by rw [<- hd.out]; rfl,rfl⟩
     | true =>
      have HF : Hid (xeV (s[k].toNat : Int) (64 - 7 * (k : Int)) = true) := hf
      clear hf
      go_wp2_with (go_at_call 91; refine (xnW _ _ _ (by omega) (by omega) (by omega) (by omega) HF _).mono ?_; rintro e w' ⟨rfl,rfl⟩)
      go_ret3
      have e := hd.out
      rw [xdK (fun _ => HF.out) h128] at e
      rw [<- e]
      exact ⟨xdR (by rw [xcK n k s[k].toNat hn0 hn1 (by omega),Int.emod_eq_of_lt (by omega) h128]) rfl rfl,rfl⟩
   ·by_cases h128 : (s[k].toNat : Int) < 128
    ·go_wp2
     go_ret3
     have e := hd.out
     rw [xdK (fun h => by omega) h128] at e
     rw [<- e]
     exact ⟨xdR (by rw [xcK n k s[k].toNat hn0 hn1 (by omega),Int.emod_eq_of_lt (by omega) h128]) rfl rfl,rfl⟩
    ·have hm := xjR n k s[k].toNat hn0 hn1 (by omega)
     have HE : Hid (bits BinOp.or IntKind.u64 n (IntKind.u64.wrap ((s[k].toNat : Int) % 128 * 2 ^ (7 * k))) = n + (s[k].toNat : Int) % 128 * 128 ^ k) := by
      unfold Hid; rw [xcK n k s[k].toNat hn0 hn1 (by omega)]; exact hm.1
     have HM : Hid _ := hm.2
     clear hm
     go_wp2
     go_round
     case rel =>
      refine ⟨k + 1,_,by go_num,rfl,by omega,by omega,?_⟩
      rw [HE.out]
      refine ⟨HM.out.1,HM.out.2,?_⟩
      have e := hd.out
      rw [xhP h7 h128] at e
      unfold Hid
      rw [show (s[k].toNat : Int) % 128 = (s[k].toNat : Int) - 128 from by omega]
      exact e
     case measure => simp [intOf]; omega
  ·go_wp2
   go_ret3
   have := H.out
   rw [List.drop_eq_nil_of_le (by rw [xaY]; omega)] at this
   exact ⟨by rw [<- this]; rfl,rfl⟩
theorem xpG (s : ByteArray) (hs : s.size <= maxLen) (w : World) :
  Calls Tryz.prog 90 #[.string s,.int .i64 32,.func (.func 103) #[] #[]] w fun e w' => e = .returned (.tuple #[.int .u64 ((rdl xdY 32 (xaX s) 0 0).1 % 18446744073709551616),.int .i64 (rdl xdY 32 (xaX s) 0 0).2.1,.int .i64 (rdl xdY 32 (xaX s) 0 0).2.2]) /\ w' = w := by
 unfold maxLen at hs
 obtain ⟨R,hR⟩ : ∃ R,rdl xdY 32 (xaX s) 0 0 = R := ⟨_,rfl⟩
 rw [hR]
 have HR : Hid (rdl xdY 32 (xaX s) 0 0 = R) := hR
 clear hR
 go_enter Tryz.func90,Tryz.ntmps90
 go_wp2
 go_loop [9,21] (fun t i => ∃ k : Nat,∃ n : Int,i = .int .i64 k /\ t = .int .u64 n /\ k <= s.size /\ 7 * (k : Int) < 32 /\ 0 <= n /\ n < 128 ^ k /\ Hid (rdl xdY 32 ((xaX s).drop k) k n = R)) (fun _ i => s.size - (intOf i).toNat)
 case atStart => exact ⟨0,0,rfl,rfl,by omega,by omega,by omega,by omega,by simpa using HR⟩
 case round =>
  obtain ⟨k,n,rfl,rfl,hk,hk7,hn0,hn1,H⟩ := hrel
  by_cases hlt : k < s.size
  ·have hd : Hid (rdl xdY 32 ((s[k].toNat : Int) :: (xaX s).drop (k + 1)) k n = R) := by unfold Hid; rw [<- xeZ s k hlt]; exact H
   clear H HR
   have hb : s[k].toNat < 256 := s[k].toNat_lt
   have hand := xhB s[k].toNat hb
   by_cases h7 : 32 - 7 * (k : Int) <= 7
   ·by_cases h128 : 128 <= (s[k].toNat : Int)
    ·go_wp2
     go_ret3
     rw [xdT h7 (.inl h128)] at hd
     exact ⟨by rw [<- hd.out]; rfl,rfl⟩
    ·cases hf : xdY (s[k].toNat : Int) (32 - 7 * (k : Int)) with
     | false =>
      have HF : Hid (xdY (s[k].toNat : Int) (32 - 7 * (k : Int)) = false) := hf
      clear hf
      go_wp2_with (go_at_call 103; refine (xnV _ _ _ (by omega) (by omega) (by omega) (by omega) HF _).mono ?_; rintro e w' ⟨rfl,rfl⟩)
      go_ret3
      rw [xdT h7 (.inr HF.out)] at hd
      exact ⟨by rw [<- hd.out]; rfl,rfl⟩
     | true =>
      have HF : Hid (xdY (s[k].toNat : Int) (32 - 7 * (k : Int)) = true) := hf
      clear hf
      go_wp2_with (go_at_call 103; refine (xnV _ _ _ (by omega) (by omega) (by omega) (by omega) HF _).mono ?_; rintro e w' ⟨rfl,rfl⟩)
      go_ret3
      have e := hd.out
      rw [xdK (fun _ => HF.out) h128] at e
      rw [<- e]
      exact ⟨xdR (by rw [xcK n k s[k].toNat hn0 hn1 (by omega),Int.emod_eq_of_lt (by omega) h128]) rfl rfl,rfl⟩
   ·by_cases h128 : (s[k].toNat : Int) < 128
    ·go_wp2
     go_ret3
     have e := hd.out
     rw [xdK (fun h => by omega) h128] at e
     rw [<- e]
     exact ⟨xdR (by rw [xcK n k s[k].toNat hn0 hn1 (by omega),Int.emod_eq_of_lt (by omega) h128]) rfl rfl,rfl⟩
    ·have hm := xjR n k s[k].toNat hn0 hn1 (by omega)
     have HE : Hid (bits BinOp.or IntKind.u64 n (IntKind.u64.wrap ((s[k].toNat : Int) % 128 * 2 ^ (7 * k))) = n + (s[k].toNat : Int) % 128 * 128 ^ k) := by
      unfold Hid; rw [xcK n k s[k].toNat hn0 hn1 (by omega)]; exact hm.1
     have HM : Hid _ := hm.2
     clear hm
     go_wp2
     go_round
     case rel =>
      refine ⟨k + 1,_,by go_num,rfl,by omega,by omega,?_⟩
      rw [HE.out]
      refine ⟨HM.out.1,HM.out.2,?_⟩
      have e := hd.out
      rw [xhP h7 h128] at e
      unfold Hid
      rw [show (s[k].toNat : Int) % 128 = (s[k].toNat : Int) - 128 from by omega]
      exact e
     case measure => simp [intOf]; omega
  ·go_wp2
   go_ret3
   have := H.out
   rw [List.drop_eq_nil_of_le (by rw [xaY]; omega)] at this
   exact ⟨by rw [<- this]; rfl,rfl⟩
theorem xpH (s : ByteArray) (hs : s.size <= maxLen) (w : World) :
  Calls Tryz.prog 90 #[.string s,.int .i64 64,.func (.func 103) #[] #[]] w fun e w' => e = .returned (.tuple #[.int .u64 ((rdl xdY 64 (xaX s) 0 0).1 % 18446744073709551616),.int .i64 (rdl xdY 64 (xaX s) 0 0).2.1,.int .i64 (rdl xdY 64 (xaX s) 0 0).2.2]) /\ w' = w := by
 unfold maxLen at hs
 obtain ⟨R,hR⟩ : ∃ R,rdl xdY 64 (xaX s) 0 0 = R := ⟨_,rfl⟩
 rw [hR]
 have HR : Hid (rdl xdY 64 (xaX s) 0 0 = R) := hR
 clear hR
 go_enter Tryz.func90,Tryz.ntmps90
 go_wp2
 go_loop [9,21] (fun t i => ∃ k : Nat,∃ n : Int,i = .int .i64 k /\ t = .int .u64 n /\ k <= s.size /\ 7 * (k : Int) < 64 /\ 0 <= n /\ n < 128 ^ k /\ Hid (rdl xdY 64 ((xaX s).drop k) k n = R)) (fun _ i => s.size - (intOf i).toNat)
 case atStart => exact ⟨0,0,rfl,rfl,by omega,by omega,by omega,by omega,by simpa using HR⟩
 case round =>
  obtain ⟨k,n,rfl,rfl,hk,hk7,hn0,hn1,H⟩ := hrel
  by_cases hlt : k < s.size
  ·have hd : Hid (rdl xdY 64 ((s[k].toNat : Int) :: (xaX s).drop (k + 1)) k n = R) := by unfold Hid; rw [<- xeZ s k hlt]; exact H
   clear H HR
   have hb : s[k].toNat < 256 := s[k].toNat_lt
   have hand := xhB s[k].toNat hb
   by_cases h7 : 64 - 7 * (k : Int) <= 7
   ·by_cases h128 : 128 <= (s[k].toNat : Int)
    ·go_wp2
     go_ret3
     rw [xdT h7 (.inl h128)] at hd
     exact ⟨by rw [<- hd.out]; rfl,rfl⟩
    ·cases hf : xdY (s[k].toNat : Int) (64 - 7 * (k : Int)) with
     | false =>
      have HF : Hid (xdY (s[k].toNat : Int) (64 - 7 * (k : Int)) = false) := hf
      clear hf
      go_wp2_with (go_at_call 103; refine (xnV _ _ _ (by omega) (by omega) (by omega) (by omega) HF _).mono ?_; rintro e w' ⟨rfl,rfl⟩)
      go_ret3
      rw [xdT h7 (.inr HF.out)] at hd
      exact ⟨by rw [<- hd.out]; rfl,rfl⟩
     | true =>
      have HF : Hid (xdY (s[k].toNat : Int) (64 - 7 * (k : Int)) = true) := hf
      clear hf
      go_wp2_with (go_at_call 103; refine (xnV _ _ _ (by omega) (by omega) (by omega) (by omega) HF _).mono ?_; rintro e w' ⟨rfl,rfl⟩)
      go_ret3
      have e := hd.out
      rw [xdK (fun _ => HF.out) h128] at e
      rw [<- e]
      exact ⟨xdR (by rw [xcK n k s[k].toNat hn0 hn1 (by omega),Int.emod_eq_of_lt (by omega) h128]) rfl rfl,rfl⟩
   ·by_cases h128 : (s[k].toNat : Int) < 128
    ·go_wp2
     go_ret3
     have e := hd.out
     rw [xdK (fun h => by omega) h128] at e
     rw [<- e]
     exact ⟨xdR (by rw [xcK n k s[k].toNat hn0 hn1 (by omega),Int.emod_eq_of_lt (by omega) h128]) rfl rfl,rfl⟩
    ·have hm := xjR n k s[k].toNat hn0 hn1 (by omega)
     have HE : Hid (bits BinOp.or IntKind.u64 n (IntKind.u64.wrap ((s[k].toNat : Int) % 128 * 2 ^ (7 * k))) = n + (s[k].toNat : Int) % 128 * 128 ^ k) := by
      unfold Hid; rw [xcK n k s[k].toNat hn0 hn1 (by omega)]; exact hm.1
     have HM : Hid _ := hm.2
     clear hm
     go_wp2
     go_round
     case rel =>
      refine ⟨k + 1,_,by go_num,rfl,by omega,by omega,?_⟩
      rw [HE.out]
      refine ⟨HM.out.1,HM.out.2,?_⟩
      have e := hd.out
      rw [xhP h7 h128] at e
      unfold Hid
      rw [show (s[k].toNat : Int) % 128 = (s[k].toNat : Int) - 128 from by omega]
      exact e
     case measure => simp [intOf]; omega
  ·go_wp2
   go_ret3
   have := H.out
   rw [List.drop_eq_nil_of_le (by rw [xaY]; omega)] at this
   exact ⟨by rw [<- this]; rfl,rfl⟩
def rU (B : Int) (l : List Int) : Int × Int × Int := if B = 32 \/ B = 64 then rdl xeV B l 0 0 else (0,0,1)
def rS (B : Int) (l : List Int) : Int × Int × Int :=
 if B = 32 \/ B = 64 then
  if (rdl xdY B l 0 0).2.2 = 0 then ((rdl xdY B l 0 0).1 - (if 64 <= l.getD ((rdl xdY B l 0 0).2.1 - 1).toNat 0 then 128 ^ (rdl xdY B l 0 0).2.1.toNat else 0),(rdl xdY B l 0 0).2.1,0)
  else (0,0,(rdl xdY B l 0 0).2.2)
 else (0,0,1)
theorem xfI (fit : Int -> Int -> Bool) (B : Int) (hB : B = 32 \/ B = 64) (l : List Int) (hl : ∀ b ∈ l,0 <= b /\ b < 256) :
  rdl fit B l 0 0 = (0,0,3) \/ rdl fit B l 0 0 = (0,0,4) \/
  ∃ f b t,l = f ++ b :: t /\ (∀ x ∈ f,128 <= x /\ x < 256) /\ 0 <= b /\ b < 128 /\ 7 * (f.length : Int) < B /\ (B <= 7 * (f.length : Int) + 7 -> fit b (B - 7 * (f.length : Int)) = true) /\ rdl fit B l 0 0 = (val (f ++ [b]),(f.length : Int) + 1,0) := by
 obtain ⟨m,hm1,hm2,hm3⟩ : ∃ m : Nat,7 * (m : Int) < B /\ B <= 7 * (m : Int) + 7 /\ m <= 9 := by
  rcases hB with rfl | rfl
  ·exact ⟨4,by omega,by omega,by omega⟩
  ·exact ⟨9,by omega,by omega,by omega⟩
 obtain ⟨f,hf,hc⟩ := xdX l hl
 by_cases hlen : m < f.length
 ·have hs : f = f.take (m + 1) ++ f.drop (m + 1) := (List.take_append_drop _ f).symm
  have h1 : ∀ b ∈ f.take (m + 1),128 <= b /\ b < 256 := fun x hx => hf x (List.mem_of_mem_take hx)
  have h2 : (f.take (m + 1)).length = m + 1 := by rw [List.length_take]; omega
  right; left
  rcases hc with rfl | ⟨b,t,rfl,_⟩
  ·rw [hs]; exact xgU _ _ h1 m h2 hm1 hm2
  ·rw [hs,List.append_assoc]; exact xgU _ _ h1 m h2 hm1 hm2
 ·rcases hc with rfl | ⟨b,t,rfl,hb0,hb⟩
  ·left; exact xfJ _ hf (by omega)
  ·by_cases hfit : B <= 7 * (f.length : Int) + 7 -> fit b (B - 7 * (f.length : Int)) = true
   ·right; right
    exact ⟨f,b,t,rfl,hf,hb0,hb,by omega,hfit,xfY f t b hf hb0 hb (by omega) hfit⟩
   ·right; left
    have h1 : B <= 7 * (f.length : Int) + 7 := by
     rcases Int.lt_or_le (7 * (f.length : Int) + 7) B with h | h
     ·exact absurd (fun h' => absurd h' (by omega)) hfit
     ·exact h
    have h2 : fit b (B - 7 * (f.length : Int)) = false := by
     cases h : fit b (B - 7 * (f.length : Int)) with
     | true => exact absurd (fun _ => h) hfit
     | false => rfl
    exact xkT f t b hf (by omega) h1 h2
theorem ylT (k : Nat) (h : k <= 9) : (128 : Int) ^ k <= 9223372036854775808 := by
 have : (128 : Int) ^ k <= 128 ^ 9 := by exact_mod_cast Nat.pow_le_pow_right (by omega : 0 < 128) h
 exact this
theorem xqP {b : Int} {r : Nat} (h : xeV b (r : Int) = true) : b < 2 ^ r := by
 simp only [xeV,beq_iff_eq,Int.toNat_natCast] at h
 have hp : (0 : Int) < 2 ^ r := Int.pow_pos (by omega)
 have e := Int.emod_add_mul_ediv b (2 ^ r)
 rw [h,Int.mul_zero,Int.add_zero] at e
 have := Int.emod_lt_of_pos b hp
 omega
theorem yeI (B : Nat) (f : List Int) (b : Int) (hb0 : 0 <= b) (hb : b < 128) (h1 : 7 * f.length < B) (h2 : B <= 7 * f.length + 7 -> xeV b ((B - 7 * f.length : Nat) : Int) = true) : val (f ++ [b]) < 2 ^ B := by
 rw [xgW]
 have hv := xcY f
 have hb' : b % 128 = b := by omega
 simp only [val,Int.mul_zero,Int.add_zero,hb']
 have e : (128 : Int) ^ f.length = 2 ^ (7 * f.length) := by exact_mod_cast xoS f.length
 have e2 : (2 : Int) ^ B = 2 ^ (B - 7 * f.length) * 2 ^ (7 * f.length) := by rw [<- Int.pow_add]; congr 1; omega
 have hlt : b < 2 ^ (B - 7 * f.length) := by
  rcases Nat.lt_or_ge (7 * f.length + 7) B with h | h
  ·have : (2 : Int) ^ 7 <= 2 ^ (B - 7 * f.length) := by exact_mod_cast Nat.pow_le_pow_right (by omega : 0 < 2) (by omega : 7 <= B - 7 * f.length)
   omega
  ·exact xqP (h2 h)
 rw [e] at hv ⊢
 rw [e2]
 have hp : (0 : Int) < 2 ^ (7 * f.length) := Int.pow_pos (by omega)
 have := Int.mul_le_mul_of_nonneg_right (Int.add_one_le_of_lt hlt) (Int.le_of_lt hp)
 rw [Int.add_mul] at this
 omega
theorem xhO (B : Int) (l : List Int) (hl : ∀ b ∈ l,0 <= b /\ b < 256) : 0 <= (rU B l).1 /\ (rU B l).1 < 18446744073709551616 := by
 unfold rU
 split
 ·rename_i hB
  rcases xfI xeV B hB l hl with h | h | ⟨f,b,t,rfl,hf,hb0,hb,h1,h2,h⟩
  ·rw [h]; simp
  ·rw [h]; simp
  ·rw [h]
   refine ⟨(xcY _).1,?_⟩
   rcases hB with rfl | rfl
   ·have := yeI 32 f b hb0 hb (by omega) (by intro h'; have := h2 (by omega); rwa [show ((32 - 7 * f.length : Nat) : Int) = 32 - 7 * (f.length : Int) from by omega])
    omega
   ·have := yeI 64 f b hb0 hb (by omega) (by intro h'; have := h2 (by omega); rwa [show ((64 - 7 * f.length : Nat) : Int) = 64 - 7 * (f.length : Int) from by omega])
    omega
 ·simp
theorem xrR (s : ByteArray) (B : Int) (g : Fn) (h1 : (B != 32) = true) (h2 : (B != 64) = true) (w : World) :
  Calls Tryz.prog 90 #[.string s,.int .i64 B,.func g #[] #[]] w fun e w' => e = .returned (.tuple #[.int .u64 0,.int .i64 0,.int .i64 1]) /\ w' = w := by
 go_enter Tryz.func90,Tryz.ntmps90
 go_wp2
 go_ret3
 exact ⟨rfl,rfl⟩
theorem xdL (s : ByteArray) (B n k e : Int) (hs : s.size <= maxLen) (h : Hid (rU B (xaX s) = (n,k,e))) (w : World) :
  Calls Tryz.prog 72 #[.string s,.int .i64 B] w fun e' w' => e' = .returned (.tuple #[.int .u64 n,.int .i64 k,.int .i64 e]) /\ w' = w := by
 have hb := xhO B (xaX s) (xaE s)
 have e0 := h.out
 rw [e0] at hb
 by_cases hB : B = 32 \/ B = 64
 ·rw [rU,if_pos hB] at e0
  have e1 : n % 18446744073709551616 = n := Int.emod_eq_of_lt hb.1 hb.2
  have E : Hid _ := e0
  have E1 : Hid _ := e1
  clear h hb e0 e1
  rcases hB with rfl | rfl
  ·go_enter Tryz.func72,Tryz.ntmps72
   go_wp2_with (go_at_call 90; refine (ycD s hs _).mono ?_; rw [E.out]; rintro e' w' ⟨rfl,rfl⟩)
   go_ret3
   exact ⟨xdR E1.out rfl rfl,rfl⟩
  ·go_enter Tryz.func72,Tryz.ntmps72
   go_wp2_with (go_at_call 90; refine (ycE s hs _).mono ?_; rw [E.out]; rintro e' w' ⟨rfl,rfl⟩)
   go_ret3
   exact ⟨xdR E1.out rfl rfl,rfl⟩
 ·rw [rU,if_neg hB] at e0
  have h1 : (B != 32) = true := by rw [bne_iff_ne]; intro h'; exact hB (.inl h')
  have h2 : (B != 64) = true := by rw [bne_iff_ne]; intro h'; exact hB (.inr h')
  injection e0 with e1 e2
  injection e2 with e2 e3
  subst e1 e2 e3
  clear h hb hB
  go_enter Tryz.func72,Tryz.ntmps72
  go_wp2_with (go_at_call 90; refine (xrR s B _ h1 h2 _).mono ?_; rintro e' w' ⟨rfl,rfl⟩)
  go_ret3
  exact ⟨rfl,rfl⟩
theorem xsL (m : Nat) (h : m < 128) : bits .and .u8 (m : Int) 64 = if 64 <= m then 64 else 0 := by
 have := u8_and_nat m 64 (by omega) (by omega)
 have e : ∀ m : Fin 128,(m.val &&& 64) = if 64 <= m.val then 64 else 0 := by decide
 rw [show ((64 : Nat) : Int) = 64 from rfl,e ⟨m,h⟩] at this
 rw [this]
 split <;> rfl
theorem xeO (s : ByteArray) (k : Nat) (h : k < s.size) : (xaX s).getD k 0 = (s[k].toNat : Int) := by
 have hl : k < (xaX s).length := by rw [xaY]; exact h
 rw [List.getD_eq_getElem?_getD,List.getElem?_eq_getElem hl,Option.getD_some]
 simp only [xaX,List.getElem_map]
 rfl
def xjY (k : Nat) : Int := if k = 9 then 0 else 18446744073709551616 - 128 ^ (k + 1)
theorem xrX (k : Nat) (hk : k <= 9) : Op.shift BinOp.shl IntKind.u64 18446744073709551615 IntKind.i64 (7 * ((k : Int) + 1)) = pure (.int .u64 (xjY k)) := by
 rw [shift_shl_any _ _ _ _ (by omega)]
 congr 2
 have e : (7 * ((k : Int) + 1)).toNat = 7 * (k + 1) := by omega
 rw [e,show IntKind.u64.bits = 64 from rfl]
 have hw : ∀ x : Int,IntKind.u64.wrap x = x % 18446744073709551616 := by intro x; simp [IntKind.wrap,IntKind.bits,IntKind.signed]
 rw [hw]
 have hc : k = 0 \/ k = 1 \/ k = 2 \/ k = 3 \/ k = 4 \/ k = 5 \/ k = 6 \/ k = 7 \/ k = 8 \/ k = 9 := by omega
 rcases hc with rfl | rfl | rfl | rfl | rfl | rfl | rfl | rfl | rfl | rfl <;> simp [xjY]
theorem ylS (N : Int) (k : Nat) (hk : k <= 8) (h0 : 0 <= N) (h1 : N < 128 ^ (k + 1)) : bits .or .u64 N (xjY k) = N + (18446744073709551616 - 128 ^ (k + 1)) := by
 obtain ⟨M,rfl⟩ : ∃ M : Nat,N = M := ⟨N.toNat,by omega⟩
 have hM : M < 2 ^ (7 * (k + 1)) := by rw [<- xoS]; exact_mod_cast h1
 have e0 : (18446744073709551616 : Nat) = 2 ^ (7 * (k + 1)) * 2 ^ (64 - 7 * (k + 1)) := by
  rw [<- Nat.pow_add,show 7 * (k + 1) + (64 - 7 * (k + 1)) = 64 from by omega]
 have e1 : (18446744073709551616 - 128 ^ (k + 1) : Int) = ((2 ^ (7 * (k + 1)) * (2 ^ (64 - 7 * (k + 1)) - 1) : Nat) : Int) := by
  rw [Nat.mul_sub,<- e0,Nat.mul_one,<- xoS]
  have : (128 : Nat) ^ (k + 1) <= 128 ^ 9 := Nat.pow_le_pow_right (by omega) (by omega)
  have h9 : (128 : Nat) ^ 9 = 9223372036854775808 := by decide
  rw [Int.ofNat_sub (by omega),Int.natCast_pow]
  rfl
 have hlt : 2 ^ (7 * (k + 1)) * (2 ^ (64 - 7 * (k + 1)) - 1) < 18446744073709551616 := by
  have hp := Nat.two_pow_pos (7 * (k + 1))
  rw [Nat.mul_sub,<- e0]; omega
 have h9 : 2 ^ (7 * (k + 1)) <= 18446744073709551616 := by
  have : (2 : Nat) ^ (7 * (k + 1)) <= 2 ^ 64 := Nat.pow_le_pow_right (by omega) (by omega)
  exact this
 rw [xjY,if_neg (by omega),e1,u64_or_nat M _ (by omega) hlt,Nat.or_comm,<- Nat.two_pow_add_eq_or_of_lt hM,Int.natCast_add,Int.add_comm]
theorem xgY (x : Int) : wrap64 x = (x + 9223372036854775808) % 18446744073709551616 - 9223372036854775808 := by unfold wrap64; rfl
theorem xfZ (f : List Int) (b : Int) (h0 : 0 <= b) (h1 : b < 128) : val (f ++ [b]) = val f + b * 128 ^ f.length := by
 rw [xgW]
 have : b % 128 = b := by omega
 simp [val,this]
theorem ykX (f : List Int) (b : Int) (h0 : 64 <= b) (h1 : b < 128) (hk : f.length <= 9) (h9 : f.length = 9 -> b = 127) :
  wrap64 (bits .or .u64 (val (f ++ [b]) % 18446744073709551616) (xjY f.length)) = val (f ++ [b]) - 128 ^ (f.length + 1) := by
 have hv := xcY (f ++ [b])
 rw [List.length_append,List.length_singleton] at hv
 by_cases h8 : f.length <= 8
 ·have hp := ylT (f.length + 1) (by omega)
  have hp0 : (0 : Int) < 128 ^ (f.length + 1) := Int.pow_pos (by omega)
  rw [Int.emod_eq_of_lt hv.1 (by omega),ylS _ _ h8 hv.1 hv.2,xgY]
  omega
 ·have e9 : f.length = 9 := by omega
  have hb := h9 e9
  subst hb
  have hv2 := xcY f
  rw [xfZ f 127 (by omega) (by omega),e9] at *
  have e1 : xjY 9 = ((0 : Nat) : Int) := rfl
  obtain ⟨M,hM⟩ : ∃ M : Nat,val f = M := ⟨(val f).toNat,by omega⟩
  rw [hM] at hv2 ⊢
  have e2 : ((M : Int) + 127 * 128 ^ 9) % 18446744073709551616 = ((M + 9223372036854775808 : Nat) : Int) := by omega
  rw [e1,e2,u64_or_nat _ 0 (by omega) (by omega),Nat.or_zero,xgY]
  omega
theorem ykY (f : List Int) (b : Int) (h0 : 0 <= b) (h1 : b < 64) (hk : f.length <= 9) (h9 : f.length = 9 -> b = 0) :
  wrap64 (val (f ++ [b]) % 18446744073709551616) = val (f ++ [b]) := by
 have hv := xcY f
 rw [xfZ f b h0 (by omega)]
 have hp0 : (0 : Int) < 128 ^ f.length := Int.pow_pos (by omega)
 by_cases h8 : f.length <= 8
 ·have hp := ylT (f.length + 1) (by omega)
  rw [Int.pow_succ] at hp
  have h2 : b * 128 ^ f.length <= 63 * 128 ^ f.length := Int.mul_le_mul_of_nonneg_right (by omega) (by omega)
  have h3 : 0 <= b * 128 ^ f.length := Int.mul_nonneg h0 (by omega)
  rw [xgY]
  omega
 ·have e9 : f.length = 9 := by omega
  have hb := h9 e9
  subst hb
  rw [e9] at hv ⊢
  rw [xgY]
  omega
theorem xsS (b : Int) (h : xdY b 1 = true) : b = 0 \/ b = 127 := by
 simp [xdY] at h
 exact h
theorem xnD (s : ByteArray) (k : Nat) (N r : Int) (hs : s.size <= maxLen) (hk : k <= 9) (hks : k < s.size) (hb : s[k].toNat < 128) (hR : Hid (rdl xdY 32 (xaX s) 0 0 = (N,(k : Int) + 1,0)))
  (hneg : Hid (64 <= s[k].toNat -> wrap64 (bits .or .u64 (N % 18446744073709551616) (xjY k)) = r)) (hpos : Hid (¬ 64 <= s[k].toNat -> wrap64 (N % 18446744073709551616) = r)) (w : World) :
  Calls Tryz.prog 94 #[.string s,.int .i64 32] w fun e' w' => e' = .returned (.tuple #[.int .i64 r,.int .i64 (k + 1),.int .i64 0]) /\ w' = w := by
 have hand := xsL s[k].toNat hb
 by_cases h64 : 64 <= s[k].toNat
 ·rw [if_pos h64] at hand
  have hsh := xrX k hk
  go_enter Tryz.func94,Tryz.ntmps94
  go_wp2_with (go_at_call 90; refine (xpG s hs _).mono ?_; rw [hR.out]; rintro e' w' ⟨rfl,rfl⟩)
  go_ret3
  exact ⟨xdR (hneg.out h64) rfl rfl,rfl⟩
 ·rw [if_neg h64] at hand
  go_enter Tryz.func94,Tryz.ntmps94
  go_wp2_with (go_at_call 90; refine (xpG s hs _).mono ?_; rw [hR.out]; rintro e' w' ⟨rfl,rfl⟩)
  go_ret3
  exact ⟨xdR (hpos.out h64) rfl rfl,rfl⟩
theorem xkW (s : ByteArray) (e : Int) (he : (e != 0) = true) (hs : s.size <= maxLen) (hR : Hid (rdl xdY 32 (xaX s) 0 0 = (0,0,e))) (w : World) :
  Calls Tryz.prog 94 #[.string s,.int .i64 32] w fun e' w' => e' = .returned (.tuple #[.int .i64 0,.int .i64 0,.int .i64 e]) /\ w' = w := by
 go_enter Tryz.func94,Tryz.ntmps94
 go_wp2_with (go_at_call 90; refine (xpG s hs _).mono ?_; rw [hR.out]; rintro e' w' ⟨rfl,rfl⟩)
 go_ret3
 exact ⟨rfl,rfl⟩
theorem xnE (s : ByteArray) (k : Nat) (N r : Int) (hs : s.size <= maxLen) (hk : k <= 9) (hks : k < s.size) (hb : s[k].toNat < 128) (hR : Hid (rdl xdY 64 (xaX s) 0 0 = (N,(k : Int) + 1,0)))
  (hneg : Hid (64 <= s[k].toNat -> wrap64 (bits .or .u64 (N % 18446744073709551616) (xjY k)) = r)) (hpos : Hid (¬ 64 <= s[k].toNat -> wrap64 (N % 18446744073709551616) = r)) (w : World) :
  Calls Tryz.prog 94 #[.string s,.int .i64 64] w fun e' w' => e' = .returned (.tuple #[.int .i64 r,.int .i64 (k + 1),.int .i64 0]) /\ w' = w := by
 have hand := xsL s[k].toNat hb
 by_cases h64 : 64 <= s[k].toNat
 ·rw [if_pos h64] at hand
  have hsh := xrX k hk
  go_enter Tryz.func94,Tryz.ntmps94
  go_wp2_with (go_at_call 90; refine (xpH s hs _).mono ?_; rw [hR.out]; rintro e' w' ⟨rfl,rfl⟩)
  go_ret3
  exact ⟨xdR (hneg.out h64) rfl rfl,rfl⟩
 ·rw [if_neg h64] at hand
  go_enter Tryz.func94,Tryz.ntmps94
  go_wp2_with (go_at_call 90; refine (xpH s hs _).mono ?_; rw [hR.out]; rintro e' w' ⟨rfl,rfl⟩)
  go_ret3
  exact ⟨xdR (hpos.out h64) rfl rfl,rfl⟩
theorem xkX (s : ByteArray) (e : Int) (he : (e != 0) = true) (hs : s.size <= maxLen) (hR : Hid (rdl xdY 64 (xaX s) 0 0 = (0,0,e))) (w : World) :
  Calls Tryz.prog 94 #[.string s,.int .i64 64] w fun e' w' => e' = .returned (.tuple #[.int .i64 0,.int .i64 0,.int .i64 e]) /\ w' = w := by
 go_enter Tryz.func94,Tryz.ntmps94
 go_wp2_with (go_at_call 90; refine (xpH s hs _).mono ?_; rw [hR.out]; rintro e' w' ⟨rfl,rfl⟩)
 go_ret3
 exact ⟨rfl,rfl⟩
theorem xvJ (s : ByteArray) (B : Int) (h1 : (B != 32) = true) (h2 : (B != 64) = true) (w : World) :
  Calls Tryz.prog 94 #[.string s,.int .i64 B] w fun e' w' => e' = .returned (.tuple #[.int .i64 0,.int .i64 0,.int .i64 1]) /\ w' = w := by
 go_enter Tryz.func94,Tryz.ntmps94
 go_wp2_with (go_at_call 90; refine (xrR s B _ h1 h2 _).mono ?_; rintro e' w' ⟨rfl,rfl⟩)
 go_ret3
 exact ⟨rfl,rfl⟩
theorem xkU (s : ByteArray) (n k e : Int) (hs : s.size <= maxLen) (h : rS 32 (xaX s) = (n,k,e)) (w : World) :
  Calls Tryz.prog 94 #[.string s,.int .i64 32] w fun e' w' => e' = .returned (.tuple #[.int .i64 n,.int .i64 k,.int .i64 e]) /\ w' = w := by
 rw [rS,if_pos (by simp)] at h
 rcases xfI xdY 32 (by simp) (xaX s) (xaE s) with hR | hR | ⟨f,b,t,hl,hf,hb0,hb,h1,h2,hR⟩
 ·rw [hR] at h
  simp at h
  obtain ⟨rfl,rfl,rfl⟩ := h
  exact xkW s 3 rfl hs hR w
 ·rw [hR] at h
  simp at h
  obtain ⟨rfl,rfl,rfl⟩ := h
  exact xkW s 4 rfl hs hR w
 ·have hsz : f.length < s.size := by rw [<- xaY,hl,List.length_append,List.length_cons]; omega
  have hg : (s[f.length].toNat : Int) = b := by
   rw [<- xeO s f.length hsz,hl]
   simp
  have hlen9 : f.length <= 9 := by omega
  have h9 : f.length = 9 -> b = 0 \/ b = 127 := by
   intro e9
   omega
  rw [hR] at h
  have e0 : ((f.length : Int) + 1 - 1).toNat = f.length := by omega
  have e1 : ((f.length : Int) + 1).toNat = f.length + 1 := by omega
  have e2 : (xaX s).getD f.length 0 = b := by rw [xeO s f.length hsz]; exact hg
  simp only [e0,e1,e2,if_true] at h
  injection h with ha h
  injection h with hb' hc
  subst hb' hc
  refine xnD s f.length (val (f ++ [b])) n hs hlen9 hsz (by omega) hR ?_ ?_ w
  ·intro h64
   rw [<- ha,if_pos (by omega)]
   exact ykX f b (by omega) hb hlen9 (fun e9 => by have := h9 e9; omega)
  ·intro h64
   rw [<- ha,if_neg (by omega),Int.sub_zero]
   exact ykY f b hb0 (by omega) hlen9 (fun e9 => by have := h9 e9; omega)
theorem xkV (s : ByteArray) (n k e : Int) (hs : s.size <= maxLen) (h : rS 64 (xaX s) = (n,k,e)) (w : World) :
  Calls Tryz.prog 94 #[.string s,.int .i64 64] w fun e' w' => e' = .returned (.tuple #[.int .i64 n,.int .i64 k,.int .i64 e]) /\ w' = w := by
 rw [rS,if_pos (by simp)] at h
 rcases xfI xdY 64 (by simp) (xaX s) (xaE s) with hR | hR | ⟨f,b,t,hl,hf,hb0,hb,h1,h2,hR⟩
 ·rw [hR] at h
  simp at h
  obtain ⟨rfl,rfl,rfl⟩ := h
  exact xkX s 3 rfl hs hR w
 ·rw [hR] at h
  simp at h
  obtain ⟨rfl,rfl,rfl⟩ := h
  exact xkX s 4 rfl hs hR w
 ·have hsz : f.length < s.size := by rw [<- xaY,hl,List.length_append,List.length_cons]; omega
  have hg : (s[f.length].toNat : Int) = b := by
   rw [<- xeO s f.length hsz,hl]
   simp
  have hlen9 : f.length <= 9 := by omega
  have h9 : f.length = 9 -> b = 0 \/ b = 127 := by
   intro e9
   have := h2 (by omega)
   rw [e9] at this
   exact xsS b this
  rw [hR] at h
  have e0 : ((f.length : Int) + 1 - 1).toNat = f.length := by omega
  have e1 : ((f.length : Int) + 1).toNat = f.length + 1 := by omega
  have e2 : (xaX s).getD f.length 0 = b := by rw [xeO s f.length hsz]; exact hg
  simp only [e0,e1,e2,if_true] at h
  injection h with ha h
  injection h with hb' hc
  subst hb' hc
  refine xnE s f.length (val (f ++ [b])) n hs hlen9 hsz (by omega) hR ?_ ?_ w
  ·intro h64
   rw [<- ha,if_pos (by omega)]
   exact ykX f b (by omega) hb hlen9 (fun e9 => by have := h9 e9; omega)
  ·intro h64
   rw [<- ha,if_neg (by omega),Int.sub_zero]
   exact ykY f b hb0 (by omega) hlen9 (fun e9 => by have := h9 e9; omega)
theorem xrQ (s : ByteArray) (B n k e : Int) (hs : s.size <= maxLen) (h : Hid (rS B (xaX s) = (n,k,e))) (w : World) :
  Calls Tryz.prog 94 #[.string s,.int .i64 B] w fun e' w' => e' = .returned (.tuple #[.int .i64 n,.int .i64 k,.int .i64 e]) /\ w' = w := by
 by_cases hB : B = 32 \/ B = 64
 ·rcases hB with rfl | rfl
  ·exact xkU s n k e hs h.out w
  ·exact xkV s n k e hs h.out w
 ·have h' := h.out
  rw [rS,if_neg hB] at h'
  injection h' with ha h'
  injection h' with hb hc
  subst ha hb hc
  exact xvJ s B (by rw [bne_iff_ne]; intro h'; exact hB (.inl h')) (by rw [bne_iff_ne]; intro h'; exact hB (.inr h')) w
theorem xcV (s : ByteArray) (a b : Nat) : xaX (s.extract a b) = ((xaX s).drop a).take (b - a) := by
 rw [xaX,Lib.extract_data,xaX,List.map_take,List.map_drop]
theorem ykT (B : Int) (hB : B = 32 \/ B = 64) (l : List Int) (hl : ∀ b ∈ l,0 <= b /\ b < 256) :
  (∃ e : Int,(e != 0) = true /\ rU B l = (0,0,e)) \/ ∃ m k : Nat,m <= 18446744073709551615 /\ (uB m).length <= k /\ k <= l.length /\ rU B l = ((m : Int),(k : Int),0) := by
 have hb := xhO B l hl
 have hu : rU B l = rdl xeV B l 0 0 := by rw [rU,if_pos hB]
 rcases xfI xeV B hB l hl with h | h | ⟨f,b,t,e,hf,hb0,hb1,h1,h2,h⟩
 ·left; exact ⟨3,rfl,by rw [hu,h]⟩
 ·left; exact ⟨4,rfl,by rw [hu,h]⟩
 ·right
  rw [hu,h] at hb
  have hv := xcY (f ++ [b])
  rw [List.length_append,List.length_singleton] at hv
  refine ⟨(val (f ++ [b])).toNat,f.length + 1,by omega,ybM _ _ ?_,?_,?_⟩
  ·have : ((val (f ++ [b])).toNat : Int) < (128 ^ (f.length + 1) : Nat) := by
    rw [Int.toNat_of_nonneg hv.1,Int.natCast_pow]; exact hv.2
   omega
  ·rw [e,List.length_append,List.length_cons]; omega
  ·rw [hu,h,Int.toNat_of_nonneg hv.1]; rfl
theorem yfE (B : Int) (hB : B = 32 \/ B = 64) (l : List Int) (hl : ∀ b ∈ l,0 <= b /\ b < 256) :
  (∃ e : Int,(e != 0) = true /\ rS B l = (0,0,e)) \/ ∃ n : Int,∃ k : Nat,-9223372036854775808 <= n /\ n <= 9223372036854775807 /\ (sB n).length <= k /\ k <= l.length /\ rS B l = (n,(k : Int),0) := by
 rcases xfI xdY B hB l hl with h | h | ⟨f,b,t,e,hf,hb0,hb1,h1,h2,h⟩
 ·left; exact ⟨3,rfl,by rw [rS,if_pos hB,h]; simp⟩
 ·left; exact ⟨4,rfl,by rw [rS,if_pos hB,h]; simp⟩
 ·right
  have hv := xcY f
  have hl9 : f.length <= 9 := by omega
  have e2 : l.getD f.length 0 = b := by rw [e]; simp
  have e0 : ((f.length : Int) + 1 - 1).toNat = f.length := by omega
  have e1 : ((f.length : Int) + 1).toNat = f.length + 1 := by omega
  have hp : (0 : Int) < 128 ^ f.length := Int.pow_pos (by omega)
  have hr : rS B l = (val (f ++ [b]) - (if 64 <= b then 128 ^ (f.length + 1) else 0),(f.length : Int) + 1,0) := by
   rw [rS,if_pos hB,h]
   simp only [e0,e1,e2,if_true]
  have hn : -(64 * 128 ^ f.length) <= val (f ++ [b]) - (if 64 <= b then 128 ^ (f.length + 1) else 0) /\ val (f ++ [b]) - (if 64 <= b then 128 ^ (f.length + 1) else 0) < 64 * 128 ^ f.length := by
   rw [xfZ f b hb0 hb1,Int.pow_succ]
   split
   ·have a1 : 64 * 128 ^ f.length <= b * 128 ^ f.length := Int.mul_le_mul_of_nonneg_right (by omega) (by omega)
    have a2 : b * 128 ^ f.length <= 127 * 128 ^ f.length := Int.mul_le_mul_of_nonneg_right (by omega) (by omega)
    omega
   ·have a1 : 0 <= b * 128 ^ f.length := Int.mul_nonneg hb0 (by omega)
    have a2 : b * 128 ^ f.length <= 63 * 128 ^ f.length := Int.mul_le_mul_of_nonneg_right (by omega) (by omega)
    omega
  have hbd : -9223372036854775808 <= val (f ++ [b]) - (if 64 <= b then 128 ^ (f.length + 1) else 0) /\ val (f ++ [b]) - (if 64 <= b then 128 ^ (f.length + 1) else 0) <= 9223372036854775807 := by
   by_cases h8 : f.length <= 8
   ·have := ylT (f.length + 1) (by omega)
    rw [Int.pow_succ] at this
    omega
   ·have e9 : f.length = 9 := by omega
    have hB64 : B = 64 := by omega
    have hf9 := h2 (by omega)
    rw [hB64,e9] at hf9
    have := xsS b hf9
    rw [e9] at hv
    rw [xfZ f b hb0 hb1,e9]
    rcases this with rfl | rfl
    ·simp; omega
    ·simp; omega
  refine ⟨_,f.length + 1,hbd.1,hbd.2,ybL _ _ hn.1 hn.2,?_,hr⟩
  rw [e,List.length_append,List.length_cons]; omega
theorem ymS (B : Int) (n m : Nat) (r : List Int) (hB : (B = 32 /\ m = 4 /\ n < 4294967296) \/ (B = 64 /\ m = 9 /\ n < 18446744073709551616)) : rU B (uB n ++ r) = ((n : Int),((uB n).length : Int),0) := by
 have hlen : (uB n).length <= m + 1 := by
  refine ybM m n ?_
  rcases hB with ⟨_,rfl,h⟩ | ⟨_,rfl,h⟩
  ·have : (128 : Nat) ^ (4 + 1) = 34359738368 := by decide
   omega
  ·have : (128 : Nat) ^ (9 + 1) = 1180591620717411303424 := by decide
   omega
 obtain ⟨f,b,h1,h2,h3,h4,h5⟩ := xyA n
 have hv := xcY f
 rw [h1,List.length_append,List.length_singleton] at hlen ⊢
 rw [rU,if_pos (by omega),List.append_assoc,List.singleton_append,xfY f r b h2 h3 h4 (by omega) ?_,h5]
 ·rfl
 ·intro h7
  rw [xfZ f b h3 h4] at h5
  rcases hB with ⟨rfl,rfl,h⟩ | ⟨rfl,rfl,h⟩
  ·have e : f.length = 4 := by omega
   rw [e] at h5 hv ⊢
   have hb : b < 16 := by omega
   simp only [xeV,beq_iff_eq]
   exact Int.ediv_eq_zero_of_lt h3 (by simpa using hb)
  ·have e : f.length = 9 := by omega
   rw [e] at h5 hv ⊢
   have hb : b < 2 := by omega
   simp only [xeV,beq_iff_eq]
   exact Int.ediv_eq_zero_of_lt h3 (by simpa using hb)
theorem ymR (B : Int) (n : Int) (m : Nat) (r : List Int) (hB : (B = 32 /\ m = 4 /\ -2147483648 <= n /\ n < 2147483648) \/ (B = 64 /\ m = 9 /\ -9223372036854775808 <= n /\ n < 9223372036854775808)) : rS B (sB n ++ r) = (n,((sB n).length : Int),0) := by
 have hlen : (sB n).length <= m + 1 := by
  refine ybL m n ?_ ?_
  ·rcases hB with ⟨_,rfl,h⟩ | ⟨_,rfl,h⟩ <;> omega
  ·rcases hB with ⟨_,rfl,h⟩ | ⟨_,rfl,h⟩ <;> omega
 obtain ⟨f,b,h1,h2,h3,h4,h5⟩ := xzL _ n (Nat.lt_succ_self _)
 have hv := xcY f
 rw [h1,List.length_append,List.length_singleton] at hlen ⊢
 have hg : rdl xdY B (f ++ [b] ++ r) 0 0 = (val (f ++ [b]),(f.length : Int) + 1,0) := by
  rw [List.append_assoc,List.singleton_append]
  refine xfY f r b h2 h3 h4 (by omega) ?_
  intro h7
  rw [xfZ f b h3 h4] at h5
  rcases hB with ⟨rfl,rfl,h⟩ | ⟨rfl,rfl,h⟩
  ·have e : f.length = 4 := by omega
   rw [e] at h5 hv ⊢
   have hb : b < 8 \/ 120 <= b := by split at h5 <;> omega
   simp only [xdY,Bool.or_eq_true,beq_iff_eq]
   rcases hb with hb | hb
   ·left; exact Int.ediv_eq_zero_of_lt h3 (by simpa using hb)
   ·right; simp; omega
  ·have e : f.length = 9 := by omega
   rw [e] at h5 hv ⊢
   have hb : b < 1 \/ 127 <= b := by split at h5 <;> omega
   simp only [xdY,Bool.or_eq_true,beq_iff_eq]
   rcases hb with hb | hb
   ·left; exact Int.ediv_eq_zero_of_lt h3 (by simpa using hb)
   ·right; simp; omega
 have e2 : (f ++ [b] ++ r).getD f.length 0 = b := by rw [List.append_assoc]; simp
 have e0 : ((f.length : Int) + 1 - 1).toNat = f.length := by omega
 have e1 : ((f.length : Int) + 1).toNat = f.length + 1 := by omega
 rw [rS,if_pos (by omega),hg]
 simp only [e0,e1,e2,if_true]
 rw [h5]
 have : n + (if 64 <= b then 128 ^ (f.length + 1) else 0) - (if 64 <= b then 128 ^ (f.length + 1) else 0) = n := by omega
 rw [this]; rfl
end Go.Proofs.YtmmjgdaamkdncaaGreatDoor
