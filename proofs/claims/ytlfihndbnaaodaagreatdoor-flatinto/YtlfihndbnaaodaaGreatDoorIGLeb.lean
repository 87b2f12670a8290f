/-
 Plain mathematics of numbers in groups of seven bits: what U and S write, as lists of numbers from 0 to 255. Plain mathematics of reading numbers in groups of seven bits. Plain mathematics of reading numbers, in one piece: the bytes that say that one more follows, the last one, and what is read of them. What leb.read does, with each of the two tests that it is handed. What leb.ReadU and leb.ReadS do, for every text and every number of bits. Strings that are made of numbers, joined, cut: the numbers of their bytes. What ReadU and ReadS can answer: an error, or a number whose shortest bytes are no more than were read. What leb.write does with a number without a sign: its bytes, as a string, and nothing that was there has turned. What U and S do: the number's bytes are handed back as a string, and nothing that was there has turned. What is written is read as it was, whatever stands behind: plain mathematics.
-/
import Derived.Laws.Bits128
import Derived.Laws.BitsAllLaws
import Derived.Laws.BytesArg
import Derived.Laws.ShiftsVarLaws
import Derived.Test.YtlfihndbnaaodaaGreatDoorRows
import Derived.WalkKit
import Derived.WalkSpells
import Derived.Deep.QuietTactic
import Derived.BigQuiet
import Derived.Lib.Strings
import Derived.Laws.Concat
set_option maxHeartbeats 400000
set_option maxRecDepth 1000000
namespace Go.Proofs.YtlfihndbnaaodaaGreatDoor
set_option linter.unusedVariables false
def uBf : Nat → Nat → List Int
 | 0, _ => []
 | f + 1, n => if n < 128 then [(n : Int)] else (((n % 128 : Nat) : Int) + 128) :: uBf f (n / 128)
def uB (n : Nat) : List Int := uBf (n + 1) n
theorem uBf_fuel : ∀ (f g n : Nat), n < f → n < g → uBf f n = uBf g n
 | 0, _, _, h, _ => by omega
 | _ + 1, 0, _, _, h => by omega
 | f + 1, g + 1, n, h1, h2 => by
  by_cases h : n < 128
  ·simp [uBf, h]
  ·simp [uBf, h, uBf_fuel f g (n / 128) (by omega) (by omega)]
theorem uB_lo {n : Nat} (h : n < 128) : uB n = [(n : Int)] := by simp [uB, uBf, h]
theorem uB_hi {n : Nat} (h : ¬ n < 128) : uB n = (((n % 128 : Nat) : Int) + 128) :: uB (n / 128) := by
 have e := uBf_fuel n (n / 128 + 1) (n / 128) (by omega) (by omega)
 simp [uB, uBf, h, e]
theorem uB_pos (n : Nat) : 1 ≤ (uB n).length := by
 by_cases h : n < 128
 ·simp [uB_lo h]
 ·simp [uB_hi h]
theorem uB_len (k : Nat) : ∀ n : Nat, n < 128 ^ (k + 1) → (uB n).length ≤ k + 1 := by
 induction k with
 | zero => intro n h; simp at h; simp [uB_lo h]
 | succ k ih =>
  intro n h
  by_cases hn : n < 128
  ·simp [uB_lo hn]
  ·rw [uB_hi hn]
   have : n / 128 < 128 ^ (k + 1) := by
    rw [Nat.pow_succ 128 (k + 1)] at h
    exact Nat.div_lt_of_lt_mul (by rw [Nat.mul_comm]; exact h)
   have := ih _ this
   simp; omega
theorem uB_len64 (n : Nat) (h : n ≤ 18446744073709551615) : (uB n).length ≤ 10 := uB_len 9 n (by omega)
theorem and127_u64 (m : Nat) (h : m ≤ 18446744073709551615) : bits .and .u64 (m : Int) 127 = ((m % 128 : Nat) : Int) := by
 have := u64_and_nat m 127 (by omega) (by omega)
 rw [show (m &&& 127) = m % 128 from Nat.and_two_pow_sub_one_eq_mod m 7] at this
 exact this
def blf : Nat → Nat → Nat
 | 0, _ => 0
 | f + 1, n => if n = 0 then 0 else blf f (n / 2) + 1
def bl (n : Nat) : Nat := blf (n + 1) n
end Go.Proofs.YtlfihndbnaaodaaGreatDoor
namespace Go.Proofs.YtlfihndbnaaodaaGreatDoor
def nums (s : ByteArray) : List Int := s.data.toList.map fun b => (b.toNat : Int)
theorem nums_length (s : ByteArray) : (nums s).length = s.size := by
 rw [nums, List.length_map, Array.length_toList]; rfl
def fitU (b room : Int) : Bool := b / 2 ^ room.toNat == 0
def fitS (b room : Int) : Bool := b / 2 ^ (room.toNat - 1) == 0 || b / 2 ^ (room.toNat - 1) == 127 / 2 ^ (room.toNat - 1)
def rdl (fit : Int → Int → Bool) (B : Int) : List Int → Nat → Int → Int × Int × Int
 | [], _, _ => (0, 0, 3)
 | b :: r, k, n =>
  if B - 7 * (k : Int) ≤ 7 ∧ (128 ≤ b ∨ fit b (B - 7 * (k : Int)) = false) then (0, 0, 4)
  else if b < 128 then (n + b * 128 ^ k, (k : Int) + 1, 0)
  else rdl fit B r (k + 1) (n + (b - 128) * 128 ^ k)
end Go.Proofs.YtlfihndbnaaodaaGreatDoor
namespace Go.Proofs.YtlfihndbnaaodaaGreatDoor
def val : List Int → Int
 | [] => 0
 | b :: r => b % 128 + 128 * val r
end Go.Proofs.YtlfihndbnaaodaaGreatDoor
namespace Go.Proofs.YtlfihndbnaaodaaGreatDoor
open Go.RowKit
end Go.Proofs.YtlfihndbnaaodaaGreatDoor
namespace Go.Proofs.YtlfihndbnaaodaaGreatDoor
open Go.RowKit
def rU (B : Int) (l : List Int) : Int × Int × Int := if B = 32 ∨ B = 64 then rdl fitU B l 0 0 else (0, 0, 1)
def rS (B : Int) (l : List Int) : Int × Int × Int :=
 if B = 32 ∨ B = 64 then
  if (rdl fitS B l 0 0).2.2 = 0 then ((rdl fitS B l 0 0).1 - (if 64 ≤ l.getD ((rdl fitS B l 0 0).2.1 - 1).toNat 0 then 128 ^ (rdl fitS B l 0 0).2.1.toNat else 0), (rdl fitS B l 0 0).2.1, 0)
  else (0, 0, (rdl fitS B l 0 0).2.2)
 else (0, 0, 1)
end Go.Proofs.YtlfihndbnaaodaaGreatDoor
namespace Go.Proofs.YtlfihndbnaaodaaGreatDoor
theorem nums_str {xs : List Int} (h : ∀ b ∈ xs, 0 ≤ b ∧ b < 256) : nums (strOfNums xs) = xs := by
 rw [nums, strOfNums_data, List.map_map]
 conv => rhs; rw [← List.map_id xs]
 apply List.map_congr_left
 intro b hb
 have := h b hb
 simp only [Function.comp_apply, UInt8.toNat_ofNat', id_eq]
 omega
theorem nums_append (s t : ByteArray) : nums (s ++ t) = nums s ++ nums t := by
 have : (s ++ t).data.toList = s.data.toList ++ t.data.toList := by
  rw [ByteArray.data_append]; simp
 rw [nums, this, List.map_append]; rfl
end Go.Proofs.YtlfihndbnaaodaaGreatDoor
namespace Go.Proofs.YtlfihndbnaaodaaGreatDoor
open Go.RowKit
end Go.Proofs.YtlfihndbnaaodaaGreatDoor
namespace Go.Proofs.YtlfihndbnaaodaaGreatDoor
open Go.RowKit
theorem Tryz.info5 : (Tryz.prog.info? 5).map (fun i => (i.zero, i.size, i.bytes)) = some (some (.int .u8 0), 1, 1) := by kernel_rfl
theorem fitsU_yes (n : Int) (w : World) (h : n < 128) :
  Calls Tryz.prog 199 #[.int .u64 n] w fun e w' => e = .returned (.bool true) ∧ w' = w := by
 go_enter Tryz.func199, Tryz.ntmps199
 go_wp2
 go_ret
 exact ⟨by simp, rfl⟩
theorem fitsU_no (n : Int) (w : World) (h : ¬ n < 128) :
  Calls Tryz.prog 199 #[.int .u64 n] w fun e w' => e = .returned (.bool false) ∧ w' = w := by
 go_enter Tryz.func199, Tryz.ntmps199
 go_wp2
 go_ret
 exact ⟨by simp, rfl⟩
theorem own_string {w : World} {base n : Nat} {v : Value} {ns : List Int} (h : w.ownsRow base 5 1 v (n + 1) (ns.map (Value.int .u8))) :
  ∃ g cap, v = .slice (some ⟨g, 0, none⟩) (n + 1) cap ∧ (convert 159 9 (.slice (some ⟨g, 0, none⟩) (n + 1) cap)).run Tryz.prog w = .ok (.string (strOfNums ns)) w := by
 have hc := fun g hg => World.ownsRow.cells h (g := g) hg
 obtain ⟨hl, h2⟩ := h
 rcases h2 with ⟨_, h0⟩ | ⟨g, cap, cur, rfl, hb, hg, hle, hcap, hcs, htk⟩
 ·omega
 ·refine ⟨g, cap, rfl, ?_⟩
  refine run_convert_bytes_arg w 159 5 Tryz.underlying159 Tryz.underlying5 g 0 (n + 1) cap ns (by simpa using hl) ?_ 9 Tryz.underlying9
  intro i hi
  have hil : i < ns.length := by simp at hl; omega
  have := hc g rfl i (.int .u8 (ns.getD i 0)) (by simp [List.getElem?_eq_getElem hil])
  have hadd : (⟨g, 0, none⟩ : Addr).add i = ⟨g, 0 + i, none⟩ := by unfold Addr.add; split <;> simp_all
  rw [hadd] at this
  exact this
theorem writeU_any (n : Nat) (hn : n ≤ 18446744073709551615) (w : World) :
  Calls Tryz.prog 198 #[.int .u64 n, .func (.func 199) #[] #[]] w fun e w' => e = .returned (.string (strOfNums (uB n))) ∧ Below w.heap.size w w' := by
 obtain ⟨i0, hi, hz0, hz1, hz2⟩ := info_parts Tryz.info5
 go_enter Tryz.func198, Tryz.ntmps198
 go_wp2
 go_loopw [0, 5] (fun t v wr => ∃ m : Nat, ∃ pre : List Int, t = .int .u64 m ∧ m ≤ 18446744073709551615 ∧ pre.length + (uB m).length ≤ 10 ∧ Hid (pre ++ uB m = uB n) ∧
   wr.ownsRow w.heap.size 5 1 v pre.length (pre.map (Value.int .u8)) ∧ Below w.heap.size w wr) (fun t _ _ => (intOf t).toNat)
 case atStart => exact ⟨n, [], rfl, hn, by simpa using uB_len64 n hn, by unfold Hid; simp, World.ownsRow_nil _ _ _ _, Below.refl _ _⟩
 case round =>
  obtain ⟨m, pre, rfl, hm, hlen, hpre, hown, hnx⟩ := hrel
  have hp := uB_pos m
  have hand := and127_u64 m hm
  have hor : bits BinOp.or IntKind.u8 ((m : Int) % 128) 128 = (m : Int) % 128 + 128 := u8_or128_right _ (by omega) (by omega)
  have hsz := hnx.size
  by_cases hlt : m < 128
  ·go_wp2_with (first | (go_at_call 199; refine (fitsU_yes _ _ (by omega)).mono ?_; rintro e w' ⟨rfl, rfl⟩) | (at_builtin; refine wpList_append_own _ rfl _ _ 159 rfl w.heap.size 5 i0 (.int .u8 0) 1 1 Tryz.underlying159 hi hz0 hz1 hz2 rfl (by decide) _ _ _ rfl (hown.alloc _) ⟨_, 0, none⟩ 1 1 [.int .u8 ((m : Int) % 128)] rfl rfl ?c1 ?c2 ?c3 ?c4 ?c5 ?_))
   case c1 => exact cell_one_new _ _ _
   case c2 => intro u hu; simp at hu; subst hu; rfl
   case c3 => unfold maxLen; omega
   case c4 => omega
   case c5 => simp; omega
   ·intro v' w1 hown' hgrow _
    have hown2 : w1.ownsRow w.heap.size 5 1 v' (pre.length + 1) ((pre ++ [(m : Int) % 128]).map (Value.int .u8)) := by simpa using hown'
    obtain ⟨g, cap, rfl, hconv⟩ := own_string hown2
    have hb : Below w.heap.size w w1 := (hnx.alloc (by omega) _).grown hgrow (by simp; omega) (fun k hk => (hown.lt k hk).1)
    have hfin : Hid (pre ++ [(m : Int) % 128] = uB n) := by unfold Hid; rw [← hpre.out, uB_lo hlt]; congr 2; omega
    clear hown' hown2 hgrow hown hnx hpre hand hor
    go_wp2
    go_ret
    exact ⟨by rw [hfin.out]; rfl, hb⟩
  ·go_wp2_with (first | (go_at_call 199; refine (fitsU_no _ _ (by omega)).mono ?_; rintro e w' ⟨rfl, rfl⟩) | (at_builtin; refine wpList_append_own _ rfl _ _ 159 rfl w.heap.size 5 i0 (.int .u8 0) 1 1 Tryz.underlying159 hi hz0 hz1 hz2 rfl (by decide) _ _ _ rfl (hown.alloc _) ⟨_, 0, none⟩ 1 1 [.int .u8 ((m : Int) % 128 + 128)] rfl rfl ?c1 ?c2 ?c3 ?c4 ?c5 ?_))
   case c1 => exact cell_one_new _ _ _
   case c2 => intro u hu; simp at hu; subst hu; rfl
   case c3 => unfold maxLen; omega
   case c4 => omega
   case c5 => simp; omega
   ·intro v' w1 hown' hgrow _
    have hown2 : w1.ownsRow w.heap.size 5 1 v' (pre ++ [(m : Int) % 128 + 128]).length ((pre ++ [(m : Int) % 128 + 128]).map (Value.int .u8)) := by simpa using hown'
    have hb : Below w.heap.size w w1 := (hnx.alloc (by omega) _).grown hgrow (by simp; omega) (fun k hk => (hown.lt k hk).1)
    have hfin : Hid (pre ++ [(m : Int) % 128 + 128] ++ uB (m / 128) = uB n) := by unfold Hid; rw [← hpre.out, uB_hi hlt]; simp
    have hl2 : (uB m).length = (uB (m / 128)).length + 1 := by rw [uB_hi hlt]; simp
    have hl3 : (pre ++ [(m : Int) % 128 + 128]).length + (uB (m / 128)).length ≤ 10 := by simp; omega
    clear hown' hgrow hown hnx hpre hand hor hl2
    go_wp2
    go_roundw
    case rel => exact ⟨m / 128, _, by go_num, by omega, hl3, hfin, hown2, hb⟩
    case measure => simp [intOf]; omega
end Go.Proofs.YtlfihndbnaaodaaGreatDoor
namespace Go.Proofs.YtlfihndbnaaodaaGreatDoor
open Go.RowKit
theorem u_any (n : Nat) (hn : n ≤ 18446744073709551615) (w : World) :
  Calls Tryz.prog 188 #[.int .u64 n] w fun e w' => e = .returned (.string (strOfNums (uB n))) ∧ Below w.heap.size w w' := by
 go_enter Tryz.func188, Tryz.ntmps188
 go_wp2_with (go_at_call 198; refine (writeU_any n hn _).mono ?_; rintro e w' ⟨rfl, hb⟩)
 go_ret
 exact ⟨rfl, hb⟩
end Go.Proofs.YtlfihndbnaaodaaGreatDoor
namespace Go.Proofs.YtlfihndbnaaodaaGreatDoor
open Go.RowKit
end Go.Proofs.YtlfihndbnaaodaaGreatDoor
