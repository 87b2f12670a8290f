import Derived.Test.YtmmjgdaamkdncaaGreatDoorAQN
import Derived.Laws.CopyOwn
import Derived.Deep.Upon
namespace Go.Proofs.YtmmjgdaamkdncaaGreatDoor
set_option maxHeartbeats 4000000
set_option maxRecDepth 1000000
set_option linter.unusedVariables false
open Go.RowKit
theorem xwK (c : Nat) (hc : c <= 16) (w : World) : Calls Tryz.prog 112 #[.int .u64 1,.int .u64 (c : Int)] w fun r w' => r = .returned (.tuple #[.int .u64 0,.int .u64 (c : Int)]) /\ w' = w := by
 have : c = 0 \/ c = 1 \/ c = 2 \/ c = 3 \/ c = 4 \/ c = 5 \/ c = 6 \/ c = 7 \/ c = 8 \/ c = 9 \/ c = 10 \/ c = 11 \/ c = 12 \/ c = 13 \/ c = 14 \/ c = 15 \/ c = 16 := by omega
 rcases this with rfl | rfl | rfl | rfl | rfl | rfl | rfl | rfl | rfl | rfl | rfl | rfl | rfl | rfl | rfl | rfl | rfl
 all_goals
  go_enter Tryz.func112,Tryz.ntmps112
  go_wp2
  go_ret2
  exact ⟨rfl,rfl⟩
theorem yeW (c : Nat) (hc : c <= 16) (w : World) : Calls Tryz.prog 104 #[.int .u64 1,.int .u64 (c : Int)] w fun r w' => r = .returned (.tuple #[.int .u64 0,.int .u64 (c : Int)]) /\ w' = w := by
 go_enter Tryz.func104,Tryz.ntmps104
 go_wp2_with (go_at_call 112; refine (xwK c hc _).mono ?_; rintro r w1 ⟨rfl,rfl⟩)
 go_ret2
 exact ⟨rfl,rfl⟩
theorem xtQ (X c : Nat) (k : Int) (hc : c <= 16) (w : World) (hx : w.cell? ⟨X,0,none⟩ = some (.int .u8 k)) (hX : X < w.heap.size) :
  Calls Tryz.prog 95 #[.slice (some ⟨X,0,none⟩) 1 1,.int .i64 (c : Int)] w fun r w' => ∃ g,r = .returned (.slice (some ⟨g,0,none⟩) c c) /\ w'.heap[g]? = some (.cells (List.replicate c (Value.int .u8 k)).toArray 57 (0,0)) /\ w.heap.size <= g /\ Below w.heap.size w w' := by
 obtain ⟨i0,hi,hz0,hz1,hz2⟩ := info_parts Tryz.infoLkin
 have hsz : (Tryz.prog.info? 57).map (·.size) = some 1 := by rw [hi]; simp [hz1]
 have HXC := kZz hx
 clear hx
 go_enter Tryz.func95,Tryz.ntmps95
 go_wp2_with (first | (go_at_call 104; refine (yeW c hc _).mono ?_; rintro r w ⟨rfl,rfl⟩) | (at_make; refine wpList_make_full _ rfl _ _ 52 rfl w.heap.size 57 i0 (.int .u8 0) 1 Tryz.underlying52 hi hz0 hz1 .i64 .i64 (c : Int) (c : Int) c rfl rfl rfl rfl ?b2 ?b3 (Nat.le_refl _) ?_))
 case b2 => rw [hz2]; omega
 case b3 => unfold maxLen; omega
 intro w2 hown hgrow
 have hb2 : Below w.heap.size w w2 := (Below.refl _ _).grown hgrow (Nat.le_refl _) (fun j hj => by cases hj)
 obtain ⟨hZl,hz⟩ := hown
 rcases hz with ⟨hz,_⟩ | ⟨g,cap,cur,hv,hgB,hg,_,_,hcs,_⟩
 ·simp at hz
 simp only [Value.slice.injEq,Option.some.injEq,Addr.mk.injEq,and_true,true_and] at hv
 obtain ⟨hgv,hcapv⟩ := hv
 subst hcapv
 have hcl : cur.toList.length = c := by rw [Array.length_toList,hcs]; omega
 obtain ⟨cl,hcur⟩ : ∃ cl,cl = cur.toList := ⟨_,rfl⟩
 have HG : Hid (w2.heap[w.heap.size]? = some (.cells cl.toArray 57 (0,0))) := by
  unfold Hid
  rw [hcur,hgv,hg]
 have hcl2 : cl.length = c := by rw [hcur]; exact hcl
 have hxc2 : w2.cell? ⟨X,0,none⟩ = some (.int .u8 k) := by rw [hb2.cell (p := ⟨X,0,none⟩) hX]; exact HXC.out
 have HX2 := kZz hxc2
 have HB2 := kZz hb2
 clear hZl hg hcs hcl hcur hgrow hgv hgB hxc2 hb2 hz1 hz2
 rcases Nat.eq_zero_or_pos c with h0 | h0
 ·subst h0
  have e : cl = [] := List.length_eq_zero_iff.1 hcl2
  subst e
  go_wp2_with (refine wpList_copy_nothing rfl (.tmp 31) (.tmp 32) 52 52 rfl 57 Tryz.underlying52 hsz _ _ _ _ _ _ rfl rfl (by simp) ?_)
  go_loopw [8] (fun nv wr => nv = .int .i64 0 /\ Hid (wr = w2)) (fun _ _ => 0)
  case atStart => exact ⟨rfl,rfl⟩
  case round =>
   obtain ⟨rfl,HE⟩ := hrel
   go_wp2
   go_ret
   have e := HE.out
   subst e
   exact ⟨w.heap.size,rfl,HG.out,Nat.le_refl _,HB2.out⟩
 ·have HP : Hid (∀ (j : Nat) (v : Value),[Value.int .u8 k][j]? = some v -> w2.cell? ((⟨X,0,none⟩ : Addr).add j) = some v) := fun j v hj => by
   obtain ⟨rfl,rfl⟩ : j = 0 /\ v = .int .u8 k := by
    cases j with
    | zero => simp at hj; exact ⟨rfl,hj.symm⟩
    | succ j => simp at hj
   exact HX2.out
  have HN : Hid ([Value.int .u8 k].length = Nat.min 1 c) := (Nat.min_eq_left h0).symm
  have HF : Hid (0 + [Value.int .u8 k].length <= cl.length) := by unfold Hid; rw [hcl2,List.length_singleton]; omega
  have HO : Hid (∀ v ∈ [Value.int .u8 k],v.oneCell' = true) := by unfold Hid; simp [Value.oneCell']
  go_wp2_with (refine wpList_copy_splice rfl (.tmp 31) (.tmp 32) 52 52 rfl 57 Tryz.underlying52 hsz _ _ _ _ _ _ rfl rfl w.heap.size 0 cl 57 HG.out [.int .u8 k] HN.out (fun _ => ⟨rfl,_,rfl,HP.out⟩) HF.out HO.out w.heap.size w HB2.out (Nat.le_refl _) ?_)
  intro w3 HG3 hb3
  have HI : Hid (∃ cur : List Value,cur.length = c /\ (∀ i,i < 1 -> cur[i]? = some (.int .u8 k)) /\ w3.heap[w.heap.size]? = some (.cells cur.toArray 57 (0,0))) := by
   refine ⟨splice cl 0 [.int .u8 k],?_,fun i hi => ?_,HG3.out⟩
   ·rw [length_splice _ _ _ (by simp; omega)]; exact hcl2
   ·obtain rfl : i = 0 := by omega
    rfl
  have HB3 : Hid (Below w.heap.size w w3) := hb3
  clear HG HG3 hb3 HB2 HX2 HXC hcl2
  go_wp2
  go_loopw [8] (fun nv wr => ∃ n : Nat,nv = .int .i64 (n : Int) /\ 1 <= n /\ n <= c /\ Hid (∃ cur : List Value,cur.length = c /\ (∀ i,i < n -> cur[i]? = some (.int .u8 k)) /\ wr.heap[w.heap.size]? = some (.cells cur.toArray 57 (0,0))) /\ Hid (Below w.heap.size w wr)) (fun nv _ => c - (intOf nv).toNat)
  case atStart => exact ⟨1,rfl,by omega,by omega,HI,HB3⟩
  case round =>
   obtain ⟨n,rfl,hn1,hnc,HJ,HBr⟩ := hrel
   clear HI HB3
   obtain ⟨cur,hcl,hcu,hg⟩ := HJ.out
   by_cases hlt : n < c
   ·have hn0 : (0 : Int) <= (n : Int) := by omega
    have hn2 : (n : Int) < (c : Int) := by omega
    have HCU : Hid (∀ i,i < n -> cur[i]? = some (.int .u8 k)) := hcu
    have HGG := kZz hg
    clear HJ hcu hg
    obtain ⟨m,hm⟩ : ∃ m,m = Nat.min n (c - n) := ⟨_,rfl⟩
    have hm1 : 1 <= m /\ m <= n /\ n + m <= c := by
     rw [hm]
     have h1 : Nat.min n (c - n) <= n := Nat.min_le_left _ _
     have h2 : Nat.min n (c - n) <= c - n := Nat.min_le_right _ _
     have h3 : 1 <= Nat.min n (c - n) := Nat.le_min.2 ⟨hn1,by omega⟩
     omega
    have HMM : Hid (m = Nat.min n (c - n)) := hm
    have HN : Hid ((List.replicate m (Value.int .u8 k)).length = Nat.min n (c - n)) := by unfold Hid; rw [List.length_replicate]; exact hm
    have HF : Hid (n + (List.replicate m (Value.int .u8 k)).length <= cur.length) := by unfold Hid; rw [hcl,List.length_replicate]; omega
    have HO : Hid (∀ v ∈ List.replicate m (Value.int .u8 k),v.oneCell' = true) := fun v hv => by rw [List.eq_of_mem_replicate hv]; rfl
    have HP : Hid (∀ (W : World),W.heap = wr.heap -> ∀ (j : Nat) (v : Value),(List.replicate m (Value.int .u8 k))[j]? = some v -> W.cell? ((⟨w.heap.size,0,none⟩ : Addr).add j) = some v) := fun W hW j v hj => by
     have hjm : j < m := by
      rcases Nat.lt_or_ge j m with h | h
      ·exact h
      ·rw [List.getElem?_eq_none (by simpa using h)] at hj; cases hj
     have hv : v = .int .u8 k := by
      rw [List.getElem?_replicate,if_pos hjm] at hj
      exact (Option.some.inj hj).symm
     have hadd : (⟨w.heap.size,0,none⟩ : Addr).add j = ⟨w.heap.size,j,none⟩ := by unfold Addr.add; split <;> simp_all
     rw [hadd,hv]
     have := HCU.out j (by omega)
     simp only [World.cell?,hW,HGG.out]
     simpa using this
    have HI2 : Hid (∀ W : World,W.heap[w.heap.size]? = some (.cells (splice cur n (List.replicate m (Value.int .u8 k))).toArray 57 (0,0)) -> ∃ cur : List Value,cur.length = c /\ (∀ i,i < n + m -> cur[i]? = some (.int .u8 k)) /\ W.heap[w.heap.size]? = some (.cells cur.toArray 57 (0,0))) := fun W hW => by
     refine ⟨_,?_,fun i hi => ?_,hW⟩
     ·rw [length_splice _ _ _ HF.out]; exact hcl
     ·unfold splice
      by_cases hin : i < n
      ·rw [List.getElem?_append_left (by rw [List.length_take]; omega),List.getElem?_take_of_lt hin]
       exact HCU.out i hin
      ·rw [List.getElem?_append_right (by rw [List.length_take]; omega),List.length_take,Nat.min_eq_left (by omega),List.getElem?_append_left (by rw [List.length_replicate]; omega),List.getElem?_replicate,if_pos (by omega)]
    obtain ⟨w4,hw4⟩ : ∃ w4,w4 = wr.drew.setRow w.heap.size (splice cur n (List.replicate m (Value.int .u8 k))).toArray := ⟨_,rfl⟩
    have hcp : (Builtin.copy_ #[52,52] 3 #[.slice (some ⟨w.heap.size,n,none⟩) (c - n) (c - n),.slice (some ⟨w.heap.size,0,none⟩) n c]).run Tryz.prog wr.drew = .ok (goInt m) w4 := by
     have := run_copy_row (P := Tryz.prog) wr.drew 52 52 3 57 w.heap.size n (c - n) (c - n) ⟨w.heap.size,0,none⟩ n c cur.toArray 57 (List.replicate m (Value.int .u8 k)) Tryz.underlying52 hsz HGG.out HN.out (HP.out _ rfl) (by have := HF.out; simpa using this) HO.out
     rw [this,hw4,List.length_replicate]
     unfold splice
     simp
    have HW4 : Hid (w4.heap[w.heap.size]? = some (.cells (splice cur n (List.replicate m (Value.int .u8 k))).toArray 57 (0,0)) /\ Below w.heap.size w w4) := by
     rw [hw4]
     have hb : Below w.heap.size w wr.drew := ⟨HBr.out.os,HBr.out.tape,HBr.out.output,HBr.out.size,HBr.out.block⟩
     exact ⟨setRow_heap wr.drew w.heap.size cur.toArray _ _ _ HGG.out,below_setRow hb (Nat.le_refl _) _⟩
    clear hm hcl hw4
    go_wp2
    go_region
    have HI3 := kZz (HI2.out w4 HW4.out.1)
    have HB4 : Hid (Below w.heap.size w w4) := HW4.out.2
    clear hcp HI2 HP HN HF HO HGG HCU HW4 HBr
    go_wp2
    go_roundw
    case rel => exact ⟨n + m,by go_num,by omega,by omega,HI3,HB4⟩
    case measure => simp [intOf]; omega
   ·go_wp2
    go_ret
    have e : n = c := by omega
    subst e
    refine ⟨w.heap.size,rfl,?_,Nat.le_refl _,HBr.out⟩
    rw [hg]
    congr 2
    apply congrArg List.toArray
    apply List.ext_getElem?
    intro i
    by_cases hi : i < n
    ·rw [hcu i hi,List.getElem?_replicate,if_pos hi]
    ·rw [List.getElem?_eq_none (by omega),List.getElem?_eq_none (by rw [List.length_replicate]; omega)]
theorem xhR {P : Program} {w : World} {ops : Array Oper} {rest : List Oper} {o : Oper} {a : Act} {Q : Exit -> Act -> World -> Prop} (hgd : o.guard = none) (s x : Operand) (t : TypeId)
  (ho : o.op = .call { callee := .builtin .append,args := #[s,x],argTypes := #[t,t] })
  (e : TypeId) (i : TypeInfo) (ht : P.underlying t = some (.slice e)) (hi : P.info? e = some i)
  (b : Option Addr) (n cap : Nat) (hs : a.eval s = .slice b n cap) (hle : n <= cap) (g : Addr) (c : Nat) (hx : a.eval x = .slice (some g) 0 c)
  (h : wpList P ops Q rest (a.put o.dst (.slice b n cap)) w) : wpList P ops Q (o :: rest) a w := by
 refine wpList_plain hgd fun K hK => ?_
 have hrun := run_append_nothing (P := P) w t t o.type e i ht hi b n cap hle (.slice (some g) 0 c) (Src.ofSlice w ht g 0 c [] (by simp) (by simp) (by simp))
 unfold Oper.wp
 simp [execOp,ho,resolve,invoke,builtin,hs,hx,hrun,Result.andThen]
 exact hK _ _ h
def vKs (N : Nat) : List Int -> World -> Value -> Prop := xlX N 57 1 (fun x : Int => [Value.int .u8 x]) (fun (_ : World) (x : Int) => (Lit.int .u8 x).wf = true) id
theorem yaI (n : Nat) (k : Int) : (List.replicate n k).flatMap (fun x : Int => [Value.int .u8 x]) = List.replicate n (Value.int .u8 k) := by
 induction n with
 | zero => rfl
 | succ n ih => rw [List.replicate_succ,List.replicate_succ,List.flatMap_cons,ih]; rfl
def xvE : Rd (List Int) := nxt (xbX 16) fun n => xeF n.toNat []
theorem yfP (P N : Nat) (l : List Int) (w : World) (h : BR w P l) (hN : N <= w.heap.size) :
  Calls Tryz.prog 82 #[.pointer (some ⟨P,0,none⟩)] w (Out P (vKs N) (xvE l) w) := by
 obtain ⟨i0,hi,hz0,hz1,hz2⟩ := info_parts Tryz.infoLkin
 have HC := kZz (xeX P 16 l w h)
 have HBY : Hid (Bts l) := h.byte
 clear h
 go_enter Tryz.func82,Tryz.ntmps82
 go_wp2_with fail
 refine HC.out.mono ?_
 clear HC
 intro r w1 ho
 rcases hx : xbX 16 l with x | ⟨n,l1⟩
 ·obtain ⟨c,rfl⟩ := ho.err hx
  exact ⟨rfl,Out.mkE (xaW hx) c⟩
 obtain ⟨c,⟨v,rfl,rfl⟩,hb1⟩ := ho.got hx
 obtain ⟨hn,_,_⟩ := (xbM 16 (by omega)).ok _ _ _ HBY.out hx
 have HX : Hid (xvE l = xeF n.toNat [] l1) := xaV hx
 obtain ⟨m,rfl⟩ : ∃ m : Nat,n = (m : Int) := ⟨n.toNat,by omega⟩
 rw [Int.toNat_natCast] at HX
 have hm : m <= 16 := by omega
 have HB1 : Hid (BR w1 P l1) := hb1
 have HC1 : Hid (Chg P w w1) := c
 clear hx ho hb1 c hn HBY
 go_wp2
 go_loopw [3,8] (fun ls iv wr => ∃ i n cap : Nat,∃ o : Option Addr,∃ L : List Int,∃ li : List Int,ls = .slice o n cap /\ iv = .int .i64 (i : Int) /\ i <= m /\ n <= 16 /\ Hid (LR wr w.heap.size 57 1 (fun x : Int => [Value.int .u8 x]) (fun (_ : World) (x : Int) => (Lit.int .u8 x).wf = true) o n cap L) /\ Hid (BR wr P li) /\ Hid (xeF m [] l1 = xeF (m - i) L li) /\ Hid (Chg P w wr)) (fun _ iv _ => m - (intOf iv).toNat)
 case atStart => exact ⟨0,0,0,none,[],l1,rfl,rfl,by omega,by omega,LR.nil _ _ _ _ _ _,HB1,rfl,HC1⟩
 case round =>
  obtain ⟨i,n,cap,o,L,li,rfl,rfl,him,hn16,HL,HB,HT,HW⟩ := hrel
  clear HB1 HC1
  have hsr := HW.out.size
  by_cases hlt : i < m
  ·have hcl := (HL.out.capm).1
   have hcm := (HL.out.capm).2
   unfold maxLen at hcm
   have HT1 : Hid (xeF m [] l1 = xeF (m - i - 1 + 1) L li) := by unfold Hid; rw [HT.out,show m - i - 1 + 1 = m - i by omega]
   have HBY1 := HB.out.byte
   clear HT
   go_wp2_with fail
   refine (xgZ P li _ HB.out).mono ?_
   intro r w2 ho
   rcases hx : xeG li with x | ⟨sz,l2⟩
   ·obtain ⟨c,rfl⟩ := ho.err hx
    exact ⟨rfl,Out.mkE (HX.out.trans (HT1.out.trans (xaW hx))) (HW.out.trans c)⟩
   obtain ⟨c,⟨v,rfl,rfl⟩,hb2⟩ := ho.got hx
   have hsz := xcH HBY1 hx
   obtain ⟨hsz0,hsz1⟩ := hsz
   have HT2 : Hid (xeF m [] l1 = _) := HT1.out.trans (xaV hx)
   have HL2 := kZz (HL.out.kp (Kp.reader HB.out c (fun t => t != 40) (by decide)) (by decide) (fun _ hd => hd))
   have HB2 : Hid (BR w2 P l2) := hb2
   have HW2 : Hid (Chg P w w2) := HW.out.trans c
   clear hx ho hb2 c HL HB HW HT1 HBY1 hsr
   go_wp2_with fail
   refine (yfO P l2 _ HB2.out).mono ?_
   intro r w3 ho
   rcases hx : xgN l2 with x | ⟨k,l3⟩
   ·obtain ⟨c,rfl⟩ := ho.err hx
    exact ⟨rfl,Out.mkE (HX.out.trans (HT2.out.trans (xaW hx))) (HW2.out.trans c)⟩
   obtain ⟨c,⟨v,rfl,rfl⟩,hb3⟩ := ho.got hx
   have HT3 : Hid (xeF m [] l1 = _) := HT2.out.trans (xaV hx)
   have hk := xlA (cod_kind.ok _ _ _ HB2.out.byte hx).1
   have HKW : Hid ((Lit.int .u8 k).wf = true) := xuM (by omega) (by omega)
   have HL3 := kZz (HL2.out.kp (Kp.reader HB2.out c (fun t => t != 40) (by decide)) (by decide) (fun _ hd => hd))
   have HB3 : Hid (BR w3 P l3) := hb3
   have HW3 : Hid (Chg P w w3) := HW2.out.trans c
   have hs3 := HW3.out.size
   have hLn := HL3.out.len
   clear hx ho hb3 c HL2 HB2 HW2 HT2 hk
   rcases hq : (decide ((L.length : Int) + sz <= 16) : Bool) with _ | _
   ·have hq2 : decide ((n : Int) + sz <= 16) = false := by rw [<- hLn]; exact hq
    go_wp2_with fail
    refine (xbA _ _).mono ?_
    rintro r w9 ⟨rfl,rfl⟩
    exact ⟨rfl,Out.mkE (HX.out.trans (HT3.out.trans (xaW (by rw [hq]; rfl)))) HW3.out⟩
   have hq2 : decide ((n : Int) + sz <= 16) = true := by rw [<- hLn]; exact hq
   have HT4 : Hid (xeF m [] l1 = xeF (m - i - 1) (L ++ List.replicate sz.toNat k) l3) := HT3.out.trans (xaV (xdU hq _ _))
   have hle := of_decide_eq_true hq2
   obtain ⟨z,rfl⟩ : ∃ z : Nat,sz = (z : Int) := ⟨sz.toNat,by omega⟩
   rw [Int.toNat_natCast] at HT4
   have hz16 : n + z <= 16 := by omega
   have HLn : Hid (L.length = n) := hLn
   clear hq hle HT3 hLn hsz0 hsz1
   go_wp2_with fail
   refine (xbB _ _).mono ?_
   rintro r w3 ⟨rfl,rfl⟩
   clear hq2
   have bA : Below w3.heap.size w3 (w3.alloc (.cells #[.int .u8 k] 57)) := (Below.refl _ _).alloc (Nat.le_refl _) _
   have HBA := kZz bA
   have hcell : (w3.alloc (.cells #[.int .u8 k] 57)).cell? ⟨w3.heap.size,0,none⟩ = some (.int .u8 k) := by
    have := xaZ w3 (.cells #[.int .u8 k] 57)
    simp only [World.cell?,this]
    rfl
   have hlt3 : w3.heap.size < (w3.alloc (.cells #[.int .u8 k] 57)).heap.size := xaU (xaZ w3 _)
   have HRP := kZz (xtQ w3.heap.size z k (by omega) (w3.alloc (.cells #[.int .u8 k] 57)) hcell hlt3)
   clear hcell hlt3
   clear bA
   go_wp2_with fail
   refine HRP.out.mono ?_
   rintro r w4 ⟨g,rfl,hg4,hgs,hb4⟩
   have HB34 : Hid (Below w3.heap.size w3 w4) := HBA.out.trans (hb4.mono (by simp))
   have HL4 := kZz (HL3.out.kp (Kp.below (fun _ => true) HB34.out) rfl (fun _ hd => hd))
   have HB4 : Hid (BR w4 P l3) := HB3.out.under HB34.out
   have HW4 : Hid (Chg P w w4) := HW3.out.trans (Chg.of_below HB34.out)
   have hs4 := HW4.out.size
   have HG4 := kZz hg4
   clear hg4 hb4 HRP HBA HB34 HL3 HB3 HW3 hgs hs3
   rcases Nat.eq_zero_or_pos z with h0 | h0
   ·subst h0
    have HT5 : Hid (xeF m [] l1 = xeF (m - (i + 1)) L l3) := by
     have := HT4.out
     rw [List.replicate_zero,List.append_nil] at this
     unfold Hid
     rw [show m - (i + 1) = m - i - 1 by omega]
     exact this
    go_wp2_with (at_builtin; refine xhR rfl _ _ 52 rfl 57 i0 Tryz.underlying52 hi _ _ _ rfl hcl _ _ rfl ?_)
    go_wp2
    go_roundw
    case rel => exact ⟨i + 1,n,cap,o,L,l3,rfl,by go_num,by omega,by omega,HL4,HB4,HT5,HW4⟩
    case measure => simp [intOf]; omega
   ·have HNW : Hid (∀ (j : Nat) (u : Value),(List.replicate z (Value.int .u8 k))[j]? = some u -> w4.cell? ((⟨g,0,none⟩ : Addr).add j) = some u) := fun j u hj => World.news_of_block (cs := (List.replicate z (Value.int .u8 k)).toArray) HG4.out j u (by simpa using hj)
    have HO1 : Hid (∀ u ∈ List.replicate z (Value.int .u8 k),u.oneCell' = true) := fun v hv => by rw [List.eq_of_mem_replicate hv]; rfl
    have HLZ : Hid ((List.replicate z (Value.int .u8 k)).length = z * 1) := by unfold Hid; rw [List.length_replicate,Nat.mul_one]
    go_wp2_with (at_builtin; refine wpList_append_lies _ rfl _ _ 52 rfl w.heap.size 57 i0 (.int .u8 0) 1 1 Tryz.underlying52 hi hz0 hz1 hz2 rfl (by omega) _ n (L.flatMap (fun x : Int => [Value.int .u8 x])) rfl HL4.out.own ⟨g,0,none⟩ z z (List.replicate z (.int .u8 k)) rfl HLZ.out HNW.out HO1.out h0 (by unfold maxLen; omega) (by omega) hs4 w4.heap.size rfl ?_)
    intro g5 capg w5 hown hgrow hat hlt5
    have qB : Kp (fun t => t != 57) w4 w5 := Kp.grown HL4.out.own hgrow _ (by decide)
    have HL5 : Hid (LR w5 w.heap.size 57 1 (fun x : Int => [Value.int .u8 x]) (fun (_ : World) (x : Int) => (Lit.int .u8 x).wf = true) (some ⟨g5,0,none⟩) (n + z) capg (L ++ List.replicate z k)) := by
     refine ⟨?_,by rw [List.length_append,List.length_replicate,HLn.out],fun x hx => ?_⟩
     ·rw [List.flatMap_append,yaI]; exact hown
     ·rw [List.mem_append] at hx
      rcases hx with hx | hx
      ·exact HL4.out.ok x hx
      ·rw [List.eq_of_mem_replicate hx]; exact HKW.out
    have HB5 : Hid (BR w5 P l3) := HB4.out.kp qB (by decide)
    have HW5 : Hid (Chg P w w5) := Chg.grown2 HW4.out HL4.out.own hgrow (Nat.le_refl _)
    have HT5 : Hid (xeF m [] l1 = xeF (m - (i + 1)) (L ++ List.replicate z k) l3) := by
     unfold Hid
     rw [show m - (i + 1) = m - i - 1 by omega]
     exact HT4.out
    clear hown hgrow hat hlt5 qB HL4 HB4 HW4 HT4 HNW HO1 HLZ HG4
    go_wp2
    go_roundw
    case rel => exact ⟨i + 1,n + z,capg,_,_,l3,rfl,by go_num,by omega,by omega,HL5,HB5,HT5,HW5⟩
    case measure => simp [intOf]; omega
  ·go_wp2
   go_ret
   have e : m - i = 0 := by omega
   have hT := HX.out.trans HT.out
   rw [e,xeF] at hT
   have hl := HL.out.len
   subst hl
   exact Out.mkO hT HW.out ⟨o,cap,L,rfl,by simp,⟨xbY HL.out.own hN,HL.out.len,HL.out.ok⟩⟩ HB.out
def rIn : Rd (List Int) := nxt xeG fun n => xbR n
def xyY {α : Type} (x : Except Int α) (r : List Int) : Except Int (α × List Int) := match x with
 | .error e => .error e
 | .ok v => .ok (v,r)
theorem xlF {α : Type} {p : Rd α} {l s r : List Int} (h : rIn l = .ok (s,r)) : xdE p l = xyY (xeW p s) r := by
 obtain ⟨n,r1,h1,h2⟩ := xaJ h
 unfold xdE
 rw [xaV h1,xaV h2]
 unfold xyY
 cases xeW p s <;> rfl
theorem xlE {α : Type} {p : Rd α} {l : List Int} {e : Int} (h : rIn l = .error e) : xdE p l = .error e := by
 unfold rIn nxt at h
 unfold xdE nxt
 cases hn : xeG l with
 | error x => rw [hn] at h; simp only [Except.error.injEq] at h; rw [h]
 | ok q =>
  obtain ⟨n,r1⟩ := q
  rw [hn] at h
  dsimp only at h ⊢
  rw [h]
theorem xkA {α : Type} {p : Rd α} {s : List Int} {e : Int} (h : p s = .error e) : xeW p s = .error e := by unfold xeW; rw [h]
theorem xoD {α : Type} {p : Rd α} {s : List Int} {v : α} (h : p s = .ok (v,[])) : xeW p s = .ok v := by unfold xeW; rw [h]; rfl
theorem xmT {α : Type} {p : Rd α} {s r : List Int} {v : α} (h : p s = .ok (v,r)) (hr : r ≠ []) : xeW p s = .error 4 := by unfold xeW; rw [h]; dsimp only; rw [if_neg hr]
theorem xvD (s : List Int) : ybI s = nxt xvE (fun ls => nxt xfF fun b => ret ⟨ls,b⟩) s := by
 unfold ybI xvE
 cases h : xbX 16 s with
 | error e => rw [xaW h,xaW (xaW h)]
 | ok q =>
  obtain ⟨n,r⟩ := q
  rw [xaV h]
  cases h2 : xeF n.toNat [] r with
  | error e => rw [xaW h2,xaW ((xaV h).trans h2)]
  | ok q => obtain ⟨ls,r2⟩ := q; rw [xaV h2,xaV ((xaV h).trans h2)]
def vIn (N : Nat) (s : List Int) (w : World) (v : Value) : Prop := ∃ I,v = .pointer (some ⟨I,0,none⟩) /\ N <= I /\ BR w I s
theorem ycW (P : Nat) (l : List Int) (w : World) (h : BR w P l) :
  Calls Tryz.prog 32 #[.pointer (some ⟨P,0,none⟩)] w (Out P (vIn w.heap.size) (rIn l) w) := by
 have HB : Hid (BR w P l) := h
 clear h
 go_enter Tryz.func32,Tryz.ntmps32
 go_wp2_with fail
 refine (xgZ P l _ HB.out).mono ?_
 intro r w1 ho
 rcases hx : xeG l with x | ⟨n,l1⟩
 ·obtain ⟨c,rfl⟩ := ho.err hx
  exact ⟨rfl,Out.mkE (xaW hx) c⟩
 obtain ⟨c,⟨v,rfl,rfl⟩,hb⟩ := ho.got hx
 have hn := (xcH HB.out.byte hx).1
 have HX : Hid (rIn l = xbR n l1) := xaV hx
 have HC : Hid (Chg P w w1) := c
 clear HB
 have HB : Hid (BR w1 P l1) := hb
 clear hx ho hb c
 go_wp2_with fail
 refine (xkQ P l1 n hn _ HB.out).mono ?_
 intro r w2 ho
 rcases hx : xbR n l1 with x | ⟨s,l2⟩
 ·obtain ⟨c,rfl⟩ := ho.err hx
  exact ⟨rfl,Out.mkE (HX.out.trans hx) (HC.out.trans c)⟩
 obtain ⟨c,⟨v,rfl,T,hT,rfl⟩,hb⟩ := ho.got hx
 have hTs : T.size <= 4096 := by
  have h1 := (xoQ hx).1
  rw [<- hT,xaY] at h1
  have := HB.out.few
  omega
 have HX2 : Hid (rIn l = .ok (s,l2)) := HX.out.trans hx
 have HC2 : Hid (Chg P w w2) := HC.out.trans c
 have HB2 : Hid (BR w2 P l2) := hb
 have HT : Hid (xaX T = s) := hT
 clear hx ho hb c HB HC HX hT
 go_wp2
 go_ret
 have bA : Below w2.heap.size w2 (w2.alloc (.cells #[.string T] 40)) := (Below.refl _ _).alloc (Nat.le_refl _) _
 exact Out.mkO HX2.out (HC2.out.trans (Chg.of_below bA)) ⟨w2.heap.size,rfl,HC2.out.size,T,HT.out,hTs,xaZ _ _⟩ (HB2.out.under bA)
theorem X3.lt {T : TypeId} {w : World} {X : Nat} {c0 c1 c2 : Value} (h : X3 T w X c0 c1 c2) : X < w.heap.size := xaU h
def ymA (a : CodV) (w : World) (v : Value) : Prop := ∃ d : FunD,v = .agg #[.int .i64 d.t,.slice d.l.o d.l.n d.l.cap,.slice d.o d.b.length d.cap] /\ d.cod = a /\ FunG w d /\ d.t = 0
theorem ymV (P : Nat) (l : List Int) (w : World) (h : BR w P l) (hA : Amb w) (hP4 : 4 <= P) :
  Calls Tryz.prog 63 #[.pointer (some ⟨P,0,none⟩)] w (Out P ymA (xlM l) w) := by
 have hPw := h.lt
 have h4 := hA.2.2
 have bA : Below w.heap.size w (w.alloc (.cells #[.int .i64 0,.slice none 0 0,.slice none 0 0] 55)) := (Below.refl _ _).alloc (Nat.le_refl _) _
 have HB : Hid (BR (w.alloc (.cells #[.int .i64 0,.slice none 0 0,.slice none 0 0] 55)) P l) := h.under bA
 have HC : Hid (Chg P w (w.alloc (.cells #[.int .i64 0,.slice none 0 0,.slice none 0 0] 55))) := Chg.of_below bA
 have HA : Hid (Amb w) := hA
 have xQ : X3 55 (w.alloc (.cells #[.int .i64 0,.slice none 0 0,.slice none 0 0] 55)) w.heap.size (.int .i64 0) (.slice none 0 0) (.slice none 0 0) := xaZ _ _
 have hQP : w.heap.size ≠ P := by omega
 clear bA h hA
 go_enter Tryz.func63,Tryz.ntmps63
 go_wp2_with fail
 refine (ycW P l _ HB.out).mono ?_
 intro r w1 ho
 rcases hx : rIn l with x | ⟨s,l1⟩
 ·obtain ⟨c,rfl⟩ := ho.err hx
  exact ⟨rfl,Out.mkE (xlE hx) (HC.out.trans c)⟩
 obtain ⟨c,⟨v,rfl,I,rfl,hI,hbI⟩,hb⟩ := ho.got hx
 have hIw : w.heap.size < I := by
  have : (w.alloc (.cells #[.int .i64 0,.slice none 0 0,.slice none 0 0] 55)).heap.size = w.heap.size + 1 := by simp
  omega
 have HX : Hid (xlM l = xyY (xeW ybI s) l1) := xlF hx
 have xQ1 := xQ.chg c hQP
 have HC1 : Hid (Chg P w w1) := HC.out.trans c
 have HB1 : Hid (BR w1 P l1) := hb
 have HI1 : Hid (BR w1 I s) := hbI
 have hQI : w.heap.size ≠ I := by omega
 clear hx ho hb c xQ HB HC hI hbI
 have hPI : P ≠ I := by omega
 go_wp2_with fail
 refine (yfP I w.heap.size s _ HI1.out HC1.out.size).mono ?_
 intro r w2 ho
 rcases hx : xvE s with x | ⟨ls,s1⟩
 ·obtain ⟨c,rfl⟩ := ho.err hx
  exact ⟨rfl,Out.mkE (by rw [HX.out,xkA (by rw [xvD,xaW hx])]; rfl) (HC1.out.new c (by omega))⟩
 obtain ⟨c,⟨v,rfl,o2,cap2,L2,rfl,hm2,hl2⟩,hb⟩ := ho.got hx
 have HF : Hid (ybI s = (nxt xfF fun b => ret ⟨ls,b⟩) s1) := by unfold Hid; rw [xvD,xaV hx]
 have xQ2 := xQ1.chg c hQI
 have HC2 : Hid (Chg P w w2) := HC1.out.new c (by omega)
 have HB2 : Hid (BR w2 P l1) := by
  obtain ⟨S,h1,h2,h3⟩ := HB1.out
  refine ⟨S,h1,h2,?_⟩
  unfold BS at h3 ⊢
  rw [c.block P (xaU h3) hPI]
  exact h3
 have HI2 : Hid (BR w2 I s1) := hb
 have HL2 := kZz hl2
 have HM2 := kZz hm2
 clear hx ho hb c xQ1 HB1 HC1 HI1 hl2 hm2
 go_wp2_with fail
 refine (ymU I w.heap.size s1 _ HI2.out (HA.out.chg HC2.out hP4) HC2.out.size).mono ?_
 intro r w3 ho
 rcases hx : xfF s1 with x | ⟨bo,s2⟩
 ·obtain ⟨c,rfl⟩ := ho.err hx
  exact ⟨rfl,Out.mkE (by rw [HX.out,xkA (by rw [HF.out,xaW hx])]; rfl) (HC2.out.new c (by omega))⟩
 obtain ⟨c,⟨v,rfl,o3,cap3,L3,rfl,hl3,hm3⟩,hb⟩ := ho.got hx
 have HF3 : Hid (ybI s = .ok (⟨ls,bo⟩,s2)) := by unfold Hid; rw [HF.out,xaV hx]; rfl
 have xQ3 := xQ2.chg c hQI
 have HC3 : Hid (Chg P w w3) := HC2.out.new c (by omega)
 have HB3 : Hid (BR w3 P l1) := by
  obtain ⟨S,h1,h2,h3⟩ := HB2.out
  refine ⟨S,h1,h2,?_⟩
  unfold BS at h3 ⊢
  rw [c.block P (xaU h3) hPI]
  exact h3
 have HI3 : Hid (BR w3 I s2) := hb
 have HL3 := kZz (HL2.out.kp (Kp.reader HI2.out c (fun t => t != 40) (by decide)) (by decide) (fun _ hd => hd))
 have HR3 := kZz hl3
 have HN3 := kZz hm3
 clear hx ho hb c xQ2 HB2 HC2 HI2 hl3 hm3 HL2 HF
 go_wp2_with fail
 refine (ymG I s2 _ HI3.out).mono ?_
 rintro r w3 ⟨rfl,hr⟩
 by_cases hs2 : s2 = []
 ·rw [if_pos hs2] at hr
  subst hr
  have HXX : Hid (xlM l = .ok (⟨ls,bo⟩,l1)) := by unfold Hid; rw [HX.out,xoD (by rw [HF3.out,hs2])]; rfl
  clear HX HF3 hs2
  obtain ⟨R,hR⟩ : ∃ R,w.heap.size = R := ⟨_,rfl⟩
  rw [hR] at xQ3 hQP
  obtain ⟨y0,y1,y2⟩ := xQ3.cell
  have f0 := xQ3.frozen 0
  have f1 := xQ3.frozen 1
  have f2 := xQ3.frozen 2
  have HFX : Hid _ := ((xQ3.set0 (.int .i64 0)).set1 (.slice o2 L2.length cap2)).set2 (.slice o3 L3.length cap3)
  have HQ : Hid _ := ((Chg.set R 0 w3 (.int .i64 0)).trans (Chg.set R 1 _ (.slice o2 L2.length cap2))).trans (Chg.set R 2 _ (.slice o3 L3.length cap3))
  have HXQ := kZz xQ3
  clear xQ3
  go_wp2
  obtain ⟨q0,q1,q2⟩ := X3.cell HFX.out
  refine bodyPost_ret (v := .agg #[.int .i64 0,.slice o2 L2.length cap2,.slice o3 L3.length cap3]) (by simp [results,Tryz.results63,go_sem,q0,q1,q2]) rfl ?_
  have kq : Kp (fun t => t != 55) w3 _ := Kp.chg HXQ.out HQ.out _ (by decide)
  refine Out.mkO HXX.out (HC3.out.new HQ.out (Nat.le_of_eq hR)) ⟨⟨0,⟨o2,L2.length,cap2,L2⟩,o3,cap3,L3⟩,rfl,?_,⟨⟨by dsimp only; omega,by dsimp only; omega⟩,(HL3.out.num).kp kq (by decide),_,HR3.out.kp kq (by decide) (by decide)⟩,rfl⟩ (HB3.out.kp kq (by decide))
  have e1 : L2 = ls := by have := HM2.out; simpa using this
  have e2 : L3.map InsD.val = bo := HN3.out
  unfold FunD.cod
  rw [e1,e2]
 ·rw [if_neg hs2] at hr
  subst hr
  exact ⟨rfl,Out.mkE (by rw [HX.out,xmT HF3.out hs2]; rfl) HC3.out⟩
end Go.Proofs.YtmmjgdaamkdncaaGreatDoor
