/-
  Whatever memory is made of bytes, and whatever calls are behind it: the answers are the document's.
-/
import Derived.Test.YtomiganjagjabaaMS5
namespace Go.Proofs.Ytomiganjagjabaa
open Go.RowKit

theorem StepsD.here {w : World} {o : Option Addr} {cap : Nat} {L : List StepD} (h : StepsD w o cap L) (k : Nat) (hk : k < L.length) : ∃ b f, o = some ⟨b, f, none⟩ ∧ b < w.heap.size ∧ L[k].ok ∧ ∀ r, r < 6 → w.cell? ⟨b, f + k * 6 + r, none⟩ = (L[k].cs)[r]? := by
  rcases h.at' with h0 | ⟨b, f, h1, h2, h3⟩
  · rw [h0] at hk
    cases hk
  · exact ⟨b, f, h1, h2, h.all _ (List.getElem_mem hk), fun r hr => h3 k hk r hr⟩
set_option maxHeartbeats 4000000 in
set_option maxRecDepth 1000000 in
theorem ofs_no (s : ByteArray) (hs : s.size ≤ 140737488355328) (most : Int) (v : Value) (h : ¬ ofOk s most) (w : World) :
    Calls Try.prog 4 #[.string s, .int .i64 most, v] w fun r w' => r = .returned (.bool true) ∧ Below w.heap.size w w' := by
  have H1 := mof_no s most hs h w
  have H2 := dof_no s most hs h w
  go_enter Try.func4, Try.ntmps4
  go_wp2_with (first | (go_at_call 10; refine H1.mono ?_; rintro r w1 ⟨rfl, rfl⟩) | (go_at_call 11; refine H2.mono ?_; rintro r w1 ⟨rfl, rfl⟩))
  go_ret
  exact ⟨rfl, Below.refl _ _⟩
set_option maxHeartbeats 4000000 in
set_option maxRecDepth 1000000 in
theorem ofs_yes (s : ByteArray) (most : Int) (o : Option Addr) (cap : Nat) (L : List StepD) (h : ofOk s most) (w : World) (hL : StepsD w o cap L) (hM : MaxIn w) :
    Calls Try.prog 4 #[.string s, .int .i64 most, .slice o L.length cap] w fun r w' => r = .returned (.bool true) ∧ Below w.heap.size w w' := by
  have H1 : Hid (type_of% (mof_yes s most h w)) := mof_yes s most h w
  have H2 : Hid (∀ W, type_of% (dof_yes s most h W)) := fun W => dof_yes s most h W
  have hnm : (((s.size / 256 : Nat)) : Int) ≤ most ∧ most ≤ 8 := ⟨h.2.1, h.2.2⟩
  have HPD : Hid (∀ w1 w2, MB w1 (w.heap.size + 1) w.heap.size (s.size / 256) most (nums s) → Below w.heap.size w w1 → DM w2 (w1.heap.size + 1) w1.heap.size most (nums s) → Below w1.heap.size w1 w2 → PD w.heap.size w2 (w.heap.size + 1) (w1.heap.size + 1) most w.heap.size (s.size / 256) w1.heap.size (nums s) ∧ Below w.heap.size w w2) := fun w1 w2 a b c d => by
    have := a.lt
    have := b.size
    exact ⟨⟨a.under d, c, ⟨by omega, by omega, by omega, by omega⟩, ⟨by omega, by omega, by omega, by omega⟩, hnm⟩, b.trans (d.mono (by omega))⟩
  obtain ⟨n, hn⟩ : ∃ n, L.length = n := ⟨_, rfl⟩
  have HLn : Hid (L.length = n) := hn
  have hnc : n ≤ cap := by rw [← hn]; exact hL.le
  have hcm : cap ≤ maxLen := hL.most
  have HL : Hid (StepsD w o cap L) := hL
  have HM : Hid (MaxIn w) := hM
  have hmx : (n : Int) ≤ 9223372036854775807 := by unfold maxLen at hcm; omega
  rw [hn]
  clear hn hL hM hnm h hnc hcm
  go_enter Try.func4, Try.ntmps4
  go_wp2_with (first | (go_at_call 10; refine H1.out.mono ?_; rintro r w1 ⟨rfl, hm1, hb1⟩; have HM1 : Hid (type_of% hm1) := hm1; have HB1 : Hid (type_of% hb1) := hb1; clear hm1 hb1 H1) | (go_at_call 11; refine (H2.out _).mono ?_; rintro r w2 ⟨rfl, hm2, hb2⟩; have HP := HPD.out _ _ HM1.out HB1.out hm2 hb2; have HPH : Hid (type_of% HP.1) := HP.1; have HPB : Hid (type_of% HP.2) := HP.2; clear HP hm2 hb2 H2 HPD))
  have HG : Hid (∃ g n q b, PD w.heap.size w2 (w.heap.size + 1) (w1.heap.size + 1) most g n q b) := ⟨_, _, _, _, HPH.out⟩
  clear HPH HM1 HB1
  obtain ⟨P, hP⟩ : ∃ P, P = w.heap.size + 1 := ⟨_, rfl⟩
  obtain ⟨Q, hQ⟩ : ∃ Q, Q = w1.heap.size + 1 := ⟨_, rfl⟩
  rw [← hP, ← hQ] at HG
  rw [← hP, ← hQ]
  clear hP hQ
  go_loopw [41] (fun i wr => ∃ k : Nat, i = .int .i64 k ∧ k ≤ n ∧ Hid (∃ g n q b, PD w.heap.size wr P Q most g n q b) ∧ Hid (Below w.heap.size w wr)) (fun i _ => n - (intOf i).toNat)
  case atStart => exact ⟨0, rfl, by omega, HG, HPB⟩
  case round =>
    obtain ⟨k, rfl, hk, HG2, HB⟩ := hrel
    clear HG HPB
    by_cases hlt : k < n
    · have hkl : k < L.length := by rw [HLn.out]; exact hlt
      obtain ⟨b, f, rfl, hbw, hok, hcs⟩ := HL.out.here k hkl
      have e0 := HB.out.cell (p := ⟨b, f + k * 6, none⟩) hbw
      have e1 := HB.out.cell (p := ⟨b, f + k * 6 + 1, none⟩) hbw
      have e2 := HB.out.cell (p := ⟨b, f + k * 6 + 2, none⟩) hbw
      have e3 := HB.out.cell (p := ⟨b, f + k * 6 + 3, none⟩) hbw
      have e4 := HB.out.cell (p := ⟨b, f + k * 6 + 4, none⟩) hbw
      have e5 := HB.out.cell (p := ⟨b, f + k * 6 + 5, none⟩) hbw
      rw [show (⟨b, f + k * 6, none⟩ : Addr) = ⟨b, f + k * 6 + 0, none⟩ from rfl, hcs 0 (by omega)] at e0
      rw [hcs 1 (by omega)] at e1
      rw [hcs 2 (by omega)] at e2
      rw [hcs 3 (by omega)] at e3
      rw [hcs 4 (by omega)] at e4
      rw [hcs 5 (by omega)] at e5
      simp only [StepD.cs, List.getElem?_cons_zero, List.getElem?_cons_succ, Nat.add_zero] at e0 e1 e2 e3 e4 e5
      have HST : Hid (∀ W, Below wr.heap.size wr W → Calls Try.prog 7 #[.pointer (some ⟨P, 0, none⟩), .pointer (some ⟨Q, 0, none⟩), .agg #[.int .i64 L[k].kind, .int .u8 (L[k].op : Int), .int .i64 L[k].x, .int .i64 L[k].y, .int .i64 L[k].v, .string L[k].s]] W (SOut w.heap.size P Q most W)) := fun W hW => by
        obtain ⟨g, n', q, b', hp⟩ := HG2.out
        have hs1 := HB.out.size
        have hs2 := hW.size
        refine mstep_any w.heap.size P Q g n' q most b' L[k] hok W (by omega) ?_ HM.out.lt ⟨hp.mb.under hW, hp.dm.under hW, hp.ne, hp.lo, hp.nm⟩
        exact (HM.out.below HB.out).below hW
      have HS1 : Hid (w.heap.size ≤ wr.heap.size) := HB.out.size
      generalize L[k] = d at *
      obtain ⟨kind, op, x, y, v, st⟩ := d
      clear hcs hok hbw
      have hki0 : (0 : Int) ≤ (k : Int) := by omega
      have hki1 : (k : Int) < (n : Int) := by omega
      go_wp2_with fail
      refine (HST.out _ ((Below.refl _ _).alloc (Nat.le_refl _) _)).mono ?_
      rintro r w3 ⟨rfl, hp3, hb3⟩
      have HG3 : Hid (type_of% hp3) := hp3
      have HB3 : Hid (Below w.heap.size w w3) := (HB.out.alloc HS1.out _).trans hb3
      clear hp3 hb3 HST HG2 HB HS1 e0 e1 e2 e3 e4 e5
      go_wp2
      go_roundw
      case rel => exact ⟨k + 1, by go_num, by omega, HG3, HB3⟩
      case measure => simp [intOf]; omega
    · have hki1 : ¬ ((k : Int) < (n : Int)) := by omega
      obtain ⟨g, m, q, b, hp⟩ := HG2.out
      obtain ⟨t, ht⟩ : ∃ t, t = strOfNums b := ⟨_, rfl⟩
      have HA : Hid (∀ W, Below wr.heap.size wr W → Calls Try.prog 9 #[.pointer (some ⟨P, 0, none⟩)] W fun r w' => r = .returned (.string t) ∧ Below W.heap.size W w') := fun W hW => by
        have := mall_any P g m most b W (hp.mb.under hW)
        rw [← ht] at this
        exact this
      obtain ⟨cp, hcap, hc0⟩ := hp.dm.c0
      have HC : Hid (∀ W, Below wr.heap.size wr W → W.cell? ⟨Q, 0, none⟩ = some (.slice (some ⟨q, 0, none⟩) b.length cp)) := fun W hW => by
        rw [hW.cell hp.dm.lt.1]
        exact hc0
      have HCV : Hid (∀ W, Below wr.heap.size wr W → (convert 34 9 (.slice (some ⟨q, 0, none⟩) b.length cp)).run Try.prog W = .ok (.string t) W) := fun W hW => by
        have := (hp.dm.under hW).str 0 b.length cp (by omega)
        rw [List.drop_zero, List.take_length, ← ht] at this
        exact this
      have hcv := HCV.out _ (Below.refl _ wr).drew
      have HS1 : Hid (w.heap.size ≤ wr.heap.size) := HB.out.size
      clear hp ht hcap HG2
      go_wp2_with fail
      go_region_held3 (fun w' => w'.cell? ⟨Q, 0, none⟩ = some (.slice (some ⟨q, 0, none⟩) b.length cp) ∧ (convert 34 9 (.slice (some ⟨q, 0, none⟩) b.length cp)).run Try.prog w' = .ok (.string t) w')
        (first | exact ⟨hc0, hcv⟩ | exact ⟨HC.out _ HB2.out, HCV.out _ HB2.out⟩ | go_keep)
        (first
          | (go_at_call 9; refine (HA.out _ (Below.refl _ _).drew).mono ?_; rintro r w2 ⟨rfl, hb2⟩; have HB2 : Hid (Below wr.heap.size wr w2) := (Below.refl _ wr).drew.trans hb2; clear hb2))
      go_wp2
      go_ret
      exact ⟨rfl, HB.out.trans (HB2.out.mono HS1.out)⟩
theorem memOfs_walk (s : ByteArray) (most : Int) (o : Option Addr) (cap : Nat) (L : List StepD) (hs : s.size ≤ 140737488355328) (w : World) (hL : StepsD w o cap L) (hM : MaxIn w) :
    Calls Try.prog 4 #[.string s, .int .i64 most, .slice o L.length cap] w fun r w' => r = .returned (.bool true) ∧ Below w.heap.size w w' := by
  by_cases h : ofOk s most
  · exact ofs_yes s most o cap L h w hL hM
  · exact ofs_no s hs most _ h w
end Go.Proofs.Ytomiganjagjabaa
