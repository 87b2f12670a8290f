/-
  What the program's own nest.Match does.
-/
import Derived.Test.YtgdleahhkaolbaaDoorNest4
namespace Go.Proofs.YtgdleahhkaolbaaDoor
open Go.RowKit

/-- What is known of a match behind an instruction: the places that are open, the ends, the turns. -/
def mStep (k : Nat) (op : Int) (q : List Nat × List Int × List Int) : List Nat × List Int × List Int :=
  if op = 2 ∨ op = 3 ∨ op = 4 then (q.1 ++ [k], q.2.1, q.2.2)
  else if op = 5 then (match q.1.getLast? with | some f => (q.1, q.2.1, (q.2.2.set k (f : Int)).set f (k : Int)) | none => q)
  else if op = 11 then (match q.1.getLast? with | some f => (q.1.dropLast, tieE q.2.1 q.2.2 f k, q.2.2) | none => q)
  else q
def mRun : Nat → List InsD → List Nat × List Int × List Int → List Nat × List Int × List Int
  | _, [], q => q
  | k, d :: L, q => mRun (k + 1) L (mStep k d.op q)
theorem MS.push {w wa w2 : World} {gE gS n : Nat} {op : List Nat} {E S : List Int} {o : Option Addr} {cap g capg k : Nat} (h : MS w wa gE gS n op E S o cap) (hg : wa.grownBy w2 (Value.slice o op.length cap).ownBlock) (hown : w2.ownsRow w.heap.size 3 1 (.slice (some ⟨g, 0, none⟩) (op.length + 1) capg) (op.length + 1) ((op.map fun (p : Nat) => Value.int .i64 (p : Int)) ++ [.int .i64 (k : Int)])) (hat : (Value.slice o op.length cap).ownBlock = some g ∨ g = wa.heap.size) : MS w w2 gE gS n (op ++ [k]) E S (some ⟨g, 0, none⟩) capg := by
  have fE := far_block (k := op.length) (c := cap) fun g hg => (h.far g hg).1
  have fS := far_block (k := op.length) (c := cap) fun g hg => (h.far g hg).2
  refine ⟨h.ends.kept hg (Or.inr (by simp [Value.ownBlock]; exact fun e => fE e.symm)), h.elses.kept hg (Or.inr (by simp [Value.ownBlock]; exact fun e => fS e.symm)), ?_, h.es, ?_, h.below.grown hg h.below.size fun j hj => (h.opens.lt j hj).1⟩
  · rw [List.length_append, List.map_append]
    exact hown
  · intro a ha
    cases ha
    have lE := (h.ends.lt gE rfl).2
    have lS := (h.elses.lt gS rfl).2
    rcases hat with e | e
    · rw [e] at fE fS
      exact ⟨by simpa using fE, by simpa using fS⟩
    · simp only
      omega
/-- What holds between two instructions of a body that is well. -/
structure MI (n k : Nat) (op : List Nat) (S : List Int) (bs : List Int) : Prop where
  len : bs.length = op.length
  most : bs.length ≤ 12
  lt : ∀ p ∈ op, p < k
  turn : ∀ j, S.getD j 0 = -1 ∨ (0 ≤ S.getD j 0 ∧ S.getD j 0 < (n : Int)) ∨ n ≤ j
theorem nStep_ok (c op : Int) (bs : List Int) (en : Bool) (h : (nStep c op bs en).1 = 0) : c = 0 ∧ en = false := by
  unfold nStep at h
  split at h
  · rename_i hc
    exact absurd h hc
  · rename_i hc
    split at h
    · cases h
    · rename_i he
      exact ⟨by omega, by simpa using he⟩
theorem nStep_5 (bs : List Int) (h : (nStep 0 5 bs false).1 = 0) : ∃ ini, bs = ini ++ [4] ∧ nStep 0 5 bs false = (0, ini ++ [5], false) := by
  rcases List.eq_nil_or_concat bs with rfl | ⟨ini, x, rfl⟩
  · cases h
  · rw [List.concat_eq_append] at h ⊢
    have e : (ini ++ [x]).getLast? = some x := by simp
    have e2 : nStep 0 5 (ini ++ [x]) false = (match some x with | some 4 => ((0 : Int), (ini ++ [x]).dropLast ++ [5], false) | _ => (4, ini ++ [x], false)) := by
      unfold nStep
      rw [e]
      rfl
    rw [e2] at h ⊢
    by_cases hx : x = 4
    · subst hx
      exact ⟨ini, rfl, by rw [List.dropLast_concat]; rfl⟩
    · exfalso
      split at h
      · rename_i heq
        simp only [Option.some.injEq] at heq
        exact hx heq
      · cases h
theorem nStep_11 (ini : List Int) (x : Int) : nStep 0 11 (ini ++ [x]) false = (0, ini, false) := by
  unfold nStep
  rw [if_neg (by simp), if_neg (by simp), if_neg (by omega), if_neg (by omega), if_pos rfl, List.dropLast_concat]
  cases ini <;> rfl
theorem getD_set (S : List Int) (i j : Nat) (v : Int) : (S.set i v).getD j 0 = if i = j ∧ j < S.length then v else S.getD j 0 := by
  rw [List.getD_eq_getElem?_getD, List.getElem?_set, List.getD_eq_getElem?_getD]
  by_cases h : i = j
  · subst h
    by_cases h2 : i < S.length
    · simp [h2]
    · simp [h2]
  · simp [h]
theorem MI.set {n k : Nat} {op : List Nat} {S : List Int} {bs bs2 : List Int} (h : MI n k op S bs) (i : Nat) (v : Nat) (hv : v < n) (hl : bs2.length = bs.length) : MI n k op (S.set i (v : Int)) bs2 := by
  refine ⟨by rw [hl]; exact h.len, by rw [hl]; exact h.most, h.lt, fun j => ?_⟩
  rw [getD_set]
  split
  · exact Or.inr (Or.inl ⟨by omega, by omega⟩)
  · exact h.turn j
theorem MI.mono {n k : Nat} {op : List Nat} {S : List Int} {bs : List Int} (h : MI n k op S bs) : MI n (k + 1) op S bs := ⟨h.len, h.most, fun p hp => Nat.lt_succ_of_lt (h.lt p hp), h.turn⟩
set_option maxHeartbeats 4000000 in
set_option maxRecDepth 1000000 in
theorem match_err (o : Option Addr) (n cap : Nat) (e : Int) (_he : (e == 0) = false) (w : World) (HC : Hid (Calls Tryd.prog 26 #[.slice o n cap] w fun r w' => r = .returned (.int .i64 e) ∧ Below w.heap.size w w')) :
    Calls Tryd.prog 21 #[.slice o n cap] w fun r w' => r = .returned (.tuple #[.slice none 0 0, .slice none 0 0, .int .i64 e]) ∧ Below w.heap.size w w' := by
  have hne : (e != 0) = true := by rw [bne, _he]; rfl
  go_enter Tryd.func21, Tryd.ntmps21
  go_wp2_with fail
  refine HC.out.mono ?_
  rintro r w1 ⟨rfl, b1⟩
  go_wp2
  go_ret3
  exact ⟨rfl, b1⟩
set_option maxHeartbeats 16000000 in
set_option maxRecDepth 1000000 in
theorem match_core (o : Option Addr) (cap n : Nat) (L : List InsD) (Q : List Nat × List Int × List Int) (hl : L.length = n) (hn : n ≤ 200) (w : World) (h : LD w o L) (HRun : Hid ((nRun L [] false).1 = 0))
    (HC : Hid (Calls Tryd.prog 26 #[.slice o n cap] w fun r w' => r = .returned (.int .i64 0) ∧ Below w.heap.size w w')) (HQ0 : Hid (mRun 0 L ([], List.replicate n (-1), List.replicate n (-1)) = Q)) :
    Calls Tryd.prog 21 #[.slice o n cap] w fun r w' => ∃ gE gS o2 cap2, r = .returned (.tuple #[.slice (some ⟨gE, 0, none⟩) n n, .slice (some ⟨gS, 0, none⟩) n n, .int .i64 0]) ∧ MS w w' gE gS n Q.1 Q.2.1 Q.2.2 o2 cap2 := by
  obtain ⟨i0, hi, hz0, hz1, hz2⟩ := info_parts Tryd.infoInt
  have HLn : Hid (L.length = n) := hl
  have HLD : Hid (LD w o L) := h
  have HNW : Hid (∀ w, type_of% (nowhere_any n hn w)) := fun w => nowhere_any n hn w
  clear hl h
  have hni : (n : Int) ≤ 200 := by omega
  go_enter Tryd.func21, Tryd.ntmps21
  go_wp2_with fail
  refine HC.out.mono ?_
  rintro r w1 ⟨rfl, b1⟩
  go_wp2_with fail
  refine (HNW.out _).mono ?_
  rintro r w2 ⟨gE, rfl, gE0, gE1, o2, b2⟩
  go_wp2_with fail
  refine (HNW.out _).mono ?_
  rintro r w3 ⟨gS, rfl, gS0, gS1, o3, b3⟩
  have s1 := b1.size
  have s2 := b2.size
  have s3 := b3.size
  have HM0 : Hid (MS w w3 gE gS n [] (List.replicate n (-1)) (List.replicate n (-1)) none 0) :=
    ⟨ownsRow_down (own3_under o2 b3) s1, ownsRow_down o3 (by omega), World.ownsRow_nil _ _ _ _, by omega, by simp, (b1.trans (b2.mono s1)).trans (b3.mono (by omega))⟩
  have HI0 : Hid (MI n 0 [] (List.replicate n (-1)) []) := ⟨rfl, by simp, by simp, fun j => by
    by_cases hj : j < n
    · left
      rw [List.getD_eq_getElem?_getD, List.getElem?_replicate, if_pos hj]
      rfl
    · exact Or.inr (Or.inr (by omega))⟩
  clear b1 b2 b3 o2 o3 gE0 gE1 gS0 gS1 s1 s2 s3 HNW HC
  go_wp2
  go_loopw [8, 25] (fun v i wr => ∃ k : Nat, ∃ op : List Nat, ∃ E S bs : List Int, ∃ en : Bool, ∃ o2 : Option Addr, ∃ cap2 : Nat, v = .slice o2 op.length cap2 ∧ i = .int .i64 k ∧ k ≤ n ∧ Hid (MS w wr gE gS n op E S o2 cap2) ∧ Hid (MI n k op S bs) ∧ Hid ((nRun (L.drop k) bs en).1 = 0) ∧ Hid (mRun k (L.drop k) (op, E, S) = Q)) (fun _ i _ => n - (intOf i).toNat)
  case atStart => exact ⟨0, [], _, _, [], false, none, 0, rfl, rfl, by omega, HM0, HI0, HRun, HQ0⟩
  case round =>
    obtain ⟨k, op, E, S, bs, en, o2, cap2, rfl, rfl, hk, HM, HI, HR, HQ⟩ := hrel
    clear HM0 HI0 HRun HQ0
    by_cases hlt : k < n
    · have hkl : k < L.length := by rw [HLn.out]; exact hlt
      have hdr : L.drop k = L[k] :: L.drop (k + 1) := List.drop_eq_getElem_cons hkl
      rcases HLD.out.2 with h0 | ⟨b, f, rfl, hbw, hc⟩
      · exfalso; rw [h0] at hkl; simp at hkl
      obtain ⟨m0, m1, m2, m3⟩ := hc k hkl
      have HR1 := HR.out
      rw [hdr, nRun] at HR1
      have HQ1 := HQ.out
      rw [hdr, mRun] at HQ1
      have e0 := HM.out.below.cell (p := ⟨b, f + k * 4, none⟩) hbw
      have e1 := HM.out.below.cell (p := ⟨b, f + k * 4 + 1, none⟩) hbw
      have e2 := HM.out.below.cell (p := ⟨b, f + k * 4 + 2, none⟩) hbw
      have e3 := HM.out.below.cell (p := ⟨b, f + k * 4 + 3, none⟩) hbw
      rw [m0] at e0
      rw [m1] at e1
      rw [m2] at e2
      rw [m3] at e3
      generalize L[k] = d at e0 e1 e2 e3 HR1 HQ1
      clear hc m0 m1 m2 m3 hdr HR HQ
      have hok : (nStep (chkD d) d.op bs en).1 = 0 := by
        by_cases h0 : (nStep (chkD d) d.op bs en).1 = 0
        · exact h0
        · rw [if_neg h0] at HR1
          exact HR1
      rw [if_pos hok] at HR1
      obtain ⟨hchk, hen⟩ := nStep_ok _ _ _ _ hok
      rw [hchk, hen] at hok HR1
      obtain ⟨opd, hopd⟩ : ∃ x, d.op = x := ⟨_, rfl⟩
      rw [hopd] at e0 hok HR1 HQ1
      have HR2 : Hid (type_of% HR1) := HR1
      have HQ2 : Hid (type_of% HQ1) := HQ1
      have HOK : Hid ((nStep 0 opd bs false).1 = 0) := hok
      clear HR1 HQ1 hchk hen hopd hok
      have hki0 : (0 : Int) ≤ (k : Int) := by omega
      have hki1 : (k : Int) < (n : Int) := by omega
      obtain ⟨hcp, hcm⟩ := own_cap HM.out.opens
      have hmo := HI.out.most
      have hle := HI.out.len
      have hopl : (op.length : Int) ≤ 12 := by omega
      by_cases h2 : opd = 2 ∨ opd = 3 ∨ opd = 4
      · have HQ3 : Hid (mRun (k + 1) (L.drop (k + 1)) (op ++ [k], E, S) = Q) := by
          have := HQ2.out
          rw [mStep, if_pos h2] at this
          exact this
        have hl12 : bs.length ≠ 12 := by
          intro e
          have := HOK.out
          unfold nStep at this
          rw [if_neg (by simp), if_neg (by simp), if_pos h2, if_pos e] at this
          cases this
        have HR3 : Hid ((nRun (L.drop (k + 1)) (bs ++ [opd]) false).1 = 0) := by
          have := HR2.out
          unfold nStep at this
          rw [if_neg (by simp), if_neg (by simp), if_pos h2, if_neg hl12] at this
          exact this
        have HI3 : Hid (MI n (k + 1) (op ++ [k]) S (bs ++ [opd])) := ⟨by simp [HI.out.len], by simp; omega, fun p hp => by
          rcases List.mem_append.1 hp with h | h
          · exact Nat.lt_succ_of_lt (HI.out.lt p h)
          · simp at h; omega, HI.out.turn⟩
        clear HQ2 HR2 HOK HI
        have h62 : op.length + 1 ≤ 13 := by omega
        rcases h2 with rfl | rfl | rfl
        · have hMa := HM.out.under ((Below.refl wr.heap.size wr).alloc (Nat.le_refl _) (.cells #[.int .u8 2, .int .i64 d.A, .int .i64 d.B, .slice d.o d.n d.cap] 24))
          have HMb : Hid (type_of% (hMa.under ((Below.refl _ _).alloc (Nat.le_refl _) (.cells #[.int .i64 (k : Int)] 3)))) := hMa.under ((Below.refl _ _).alloc (Nat.le_refl _) (.cells #[.int .i64 (k : Int)] 3))
          have HNB : Hid (((wr.alloc (.cells #[.int .u8 2, .int .i64 d.A, .int .i64 d.B, .slice d.o d.n d.cap] 24)).alloc (.cells #[.int .i64 (k : Int)] 3)).heap[wr.heap.size + 1]? = some (.cells #[.int .i64 (k : Int)] 3 (0, 0))) := by
            have := heap_alloc_new (wr.alloc (.cells #[.int .u8 2, .int .i64 d.A, .int .i64 d.B, .slice d.o d.n d.cap] 24)) (.cells #[.int .i64 (k : Int)] 3)
            rw [World.size_alloc] at this
            exact this
          clear hMa
          go_wp2_with (at_builtin; refine wpList_append_lies _ rfl _ _ 41 rfl w.heap.size 3 i0 (.int .i64 0) 1 8 Tryd.underlying41 hi hz0 hz1 hz2 rfl (by omega) _ op.length (op.map fun (p : Nat) => Value.int .i64 (p : Int)) rfl HMb.out.opens ⟨wr.heap.size + 1, 0, none⟩ 1 1 [.int .i64 (k : Int)] rfl rfl (World.news_of_block (cs := #[.int .i64 (k : Int)]) (t := 3) (fr := (0, 0)) HNB.out) (by simp [Value.oneCell']) (by omega) (by unfold maxLen; omega) (by omega) HMb.out.below.size _ rfl ?_)
          intro g capg w5 hown hgrow hat hlt5
          have HM5 : Hid (MS w w5 gE gS n (op ++ [k]) E S (some ⟨g, 0, none⟩) capg) := HMb.out.push hgrow hown (by rw [World.size_alloc, World.size_alloc]; exact hat)
          clear hown hgrow hat hlt5 HMb HM
          go_wp2
          go_roundw
          case rel => exact ⟨k + 1, op ++ [k], E, S, bs ++ [2], false, _, capg, by simp, by go_num, by omega, HM5, HI3, HR3, HQ3⟩
          case measure => simp [intOf]; omega
        · have hMa := HM.out.under ((Below.refl wr.heap.size wr).alloc (Nat.le_refl _) (.cells #[.int .u8 3, .int .i64 d.A, .int .i64 d.B, .slice d.o d.n d.cap] 24))
          have HMb : Hid (type_of% (hMa.under ((Below.refl _ _).alloc (Nat.le_refl _) (.cells #[.int .i64 (k : Int)] 3)))) := hMa.under ((Below.refl _ _).alloc (Nat.le_refl _) (.cells #[.int .i64 (k : Int)] 3))
          have HNB : Hid (((wr.alloc (.cells #[.int .u8 3, .int .i64 d.A, .int .i64 d.B, .slice d.o d.n d.cap] 24)).alloc (.cells #[.int .i64 (k : Int)] 3)).heap[wr.heap.size + 1]? = some (.cells #[.int .i64 (k : Int)] 3 (0, 0))) := by
            have := heap_alloc_new (wr.alloc (.cells #[.int .u8 3, .int .i64 d.A, .int .i64 d.B, .slice d.o d.n d.cap] 24)) (.cells #[.int .i64 (k : Int)] 3)
            rw [World.size_alloc] at this
            exact this
          clear hMa
          go_wp2_with (at_builtin; refine wpList_append_lies _ rfl _ _ 41 rfl w.heap.size 3 i0 (.int .i64 0) 1 8 Tryd.underlying41 hi hz0 hz1 hz2 rfl (by omega) _ op.length (op.map fun (p : Nat) => Value.int .i64 (p : Int)) rfl HMb.out.opens ⟨wr.heap.size + 1, 0, none⟩ 1 1 [.int .i64 (k : Int)] rfl rfl (World.news_of_block (cs := #[.int .i64 (k : Int)]) (t := 3) (fr := (0, 0)) HNB.out) (by simp [Value.oneCell']) (by omega) (by unfold maxLen; omega) (by omega) HMb.out.below.size _ rfl ?_)
          intro g capg w5 hown hgrow hat hlt5
          have HM5 : Hid (MS w w5 gE gS n (op ++ [k]) E S (some ⟨g, 0, none⟩) capg) := HMb.out.push hgrow hown (by rw [World.size_alloc, World.size_alloc]; exact hat)
          clear hown hgrow hat hlt5 HMb HM
          go_wp2
          go_roundw
          case rel => exact ⟨k + 1, op ++ [k], E, S, bs ++ [3], false, _, capg, by simp, by go_num, by omega, HM5, HI3, HR3, HQ3⟩
          case measure => simp [intOf]; omega
        · have hMa := HM.out.under ((Below.refl wr.heap.size wr).alloc (Nat.le_refl _) (.cells #[.int .u8 4, .int .i64 d.A, .int .i64 d.B, .slice d.o d.n d.cap] 24))
          have HMb : Hid (type_of% (hMa.under ((Below.refl _ _).alloc (Nat.le_refl _) (.cells #[.int .i64 (k : Int)] 3)))) := hMa.under ((Below.refl _ _).alloc (Nat.le_refl _) (.cells #[.int .i64 (k : Int)] 3))
          have HNB : Hid (((wr.alloc (.cells #[.int .u8 4, .int .i64 d.A, .int .i64 d.B, .slice d.o d.n d.cap] 24)).alloc (.cells #[.int .i64 (k : Int)] 3)).heap[wr.heap.size + 1]? = some (.cells #[.int .i64 (k : Int)] 3 (0, 0))) := by
            have := heap_alloc_new (wr.alloc (.cells #[.int .u8 4, .int .i64 d.A, .int .i64 d.B, .slice d.o d.n d.cap] 24)) (.cells #[.int .i64 (k : Int)] 3)
            rw [World.size_alloc] at this
            exact this
          clear hMa
          go_wp2_with (at_builtin; refine wpList_append_lies _ rfl _ _ 41 rfl w.heap.size 3 i0 (.int .i64 0) 1 8 Tryd.underlying41 hi hz0 hz1 hz2 rfl (by omega) _ op.length (op.map fun (p : Nat) => Value.int .i64 (p : Int)) rfl HMb.out.opens ⟨wr.heap.size + 1, 0, none⟩ 1 1 [.int .i64 (k : Int)] rfl rfl (World.news_of_block (cs := #[.int .i64 (k : Int)]) (t := 3) (fr := (0, 0)) HNB.out) (by simp [Value.oneCell']) (by omega) (by unfold maxLen; omega) (by omega) HMb.out.below.size _ rfl ?_)
          intro g capg w5 hown hgrow hat hlt5
          have HM5 : Hid (MS w w5 gE gS n (op ++ [k]) E S (some ⟨g, 0, none⟩) capg) := HMb.out.push hgrow hown (by rw [World.size_alloc, World.size_alloc]; exact hat)
          clear hown hgrow hat hlt5 HMb HM
          go_wp2
          go_roundw
          case rel => exact ⟨k + 1, op ++ [k], E, S, bs ++ [4], false, _, capg, by simp, by go_num, by omega, HM5, HI3, HR3, HQ3⟩
          case measure => simp [intOf]; omega
      by_cases h5 : opd = 5
      · subst h5
        obtain ⟨ini4, hb4, hn5⟩ := nStep_5 bs HOK.out
        have hopne : op ≠ [] := by
          intro e
          have := HI.out.len
          rw [e, hb4] at this
          simp at this
        obtain ⟨ini, fp, hop⟩ : ∃ ini fp, op = ini ++ [fp] := by
          rcases List.eq_nil_or_concat op with h | ⟨i, x, h⟩
          · exact absurd h hopne
          · exact ⟨i, x, by rw [h, List.concat_eq_append]⟩
        subst hop
        have hfk : fp < k := HI.out.lt fp (by simp)
        have HQ3 : Hid (mRun (k + 1) (L.drop (k + 1)) (ini ++ [fp], E, (S.set k (fp : Int)).set fp (k : Int)) = Q) := by
          have := HQ2.out
          rw [mStep, if_neg h2, if_pos rfl] at this
          unfold Hid
          simpa using this
        have HR3 : Hid ((nRun (L.drop (k + 1)) (ini4 ++ [5]) false).1 = 0) := by
          have := HR2.out
          rw [hn5] at this
          exact this
        have HI3 : Hid (MI n (k + 1) (ini ++ [fp]) ((S.set k (fp : Int)).set fp (k : Int)) (ini4 ++ [5])) := ((HI.out.mono.set k fp (by omega) (by rw [hb4]; simp)).set fp k (by omega) rfl)
        have hMa := HM.out.under ((Below.refl wr.heap.size wr).alloc (Nat.le_refl _) (.cells #[.int .u8 5, .int .i64 d.A, .int .i64 d.B, .slice d.o d.n d.cap] 24))
        obtain ⟨gO, rfl, cO, _, _, _⟩ := hMa.lasts
        have hb1 := hMa.setS k fp
        have hb2 := hb1.setS fp k
        obtain ⟨cS1, zS1⟩ := hMa.cellS k hlt
        obtain ⟨cS2, zS2⟩ := hb1.cellS fp (by omega)
        have hgO : gO ≠ gS := (hMa.far _ rfl).2
        have hS2 : (wr.alloc (.cells #[.int .u8 5, .int .i64 d.A, .int .i64 d.B, .slice d.o d.n d.cap] 24)).cell? ⟨gS, fp, none⟩ = some (.int .i64 (S.getD fp 0)) := (hMa.cellS fp (by omega)).1
        have zS3 := (hMa.cellS fp (by omega)).2
        have HM2 : Hid (type_of% hb2) := hb2
        clear HQ2 HR2 HOK HI hb1 hb2 hMa
        have hll : ((ini ++ [fp]).length : Int) = (ini.length : Int) + 1 := by simp
        have hlln : (ini ++ [fp]).length = ini.length + 1 := by simp
        rw [hlln] at hopl hcp ⊢
        have hfi0 : (0 : Int) ≤ (fp : Int) := by omega
        have hfi1 : (fp : Int) < (n : Int) := by omega
        have hii0 : (0 : Int) ≤ (ini.length : Int) := by omega
        go_wp2
        go_region
        all_goals
          go_wp2
          go_roundw
          case rel => exact ⟨k + 1, ini ++ [fp], E, _, ini4 ++ [5], false, _, cap2, by rw [hlln], by go_num, by omega, HM2.out.drew, HI3, HR3, HQ3⟩
          case measure => simp [intOf]; omega
      by_cases h11 : opd = 11
      · subst h11
        rcases List.eq_nil_or_concat op with hop | ⟨ini, fp, hop⟩
        · subst hop
          have hbs0 : bs = [] := List.length_eq_zero_iff.1 (by rw [HI.out.len]; rfl)
          have HQ3 : Hid (mRun (k + 1) (L.drop (k + 1)) ([], E, S) = Q) := by
            have := HQ2.out
            rw [mStep, if_neg h2, if_neg h5, if_pos rfl] at this
            exact this
          have HR3 : Hid ((nRun (L.drop (k + 1)) [] true).1 = 0) := by
            have := HR2.out
            rw [hbs0] at this
            exact this
          have HI3 : Hid (MI n (k + 1) [] S []) := by
            have := HI.out.mono
            rw [hbs0] at this
            exact this
          have HM2 : Hid (type_of% (HM.out.under ((Below.refl wr.heap.size wr).alloc (Nat.le_refl _) (.cells #[.int .u8 11, .int .i64 d.A, .int .i64 d.B, .slice d.o d.n d.cap] 24)))) := HM.out.under ((Below.refl wr.heap.size wr).alloc (Nat.le_refl _) (.cells #[.int .u8 11, .int .i64 d.A, .int .i64 d.B, .slice d.o d.n d.cap] 24))
          clear HQ2 HR2 HOK HI
          rw [List.length_nil]
          go_wp2
          go_roundw
          case rel => exact ⟨k + 1, [], E, S, [], true, o2, cap2, rfl, by go_num, by omega, HM2, HI3, HR3, HQ3⟩
          case measure => simp [intOf]; omega
        · rw [List.concat_eq_append] at hop
          subst hop
          have hbne : bs ≠ [] := by
            intro e
            have := HI.out.len
            rw [e] at this
            simp at this
          obtain ⟨inib, xb, hb⟩ : ∃ ini fp, bs = ini ++ [fp] := by
            rcases List.eq_nil_or_concat bs with h | ⟨i, x, h⟩
            · exact absurd h hbne
            · exact ⟨i, x, by rw [h, List.concat_eq_append]⟩
          subst hb
          have hfk : fp < k := HI.out.lt fp (by simp)
          have HQ3 : Hid (mRun (k + 1) (L.drop (k + 1)) (ini, tieE E S fp k, S) = Q) := by
            have := HQ2.out
            rw [mStep, if_neg h2, if_neg h5, if_pos rfl] at this
            unfold Hid
            simpa using this
          have HR3 : Hid ((nRun (L.drop (k + 1)) inib false).1 = 0) := by
            have := HR2.out
            rw [nStep_11] at this
            exact this
          have HI3 : Hid (MI n (k + 1) ini S inib) := by
            have hh := HI.out
            have h1 := hh.len
            have h3 := hh.most
            simp at h1 h3
            exact ⟨h1, by omega, fun p hp => Nat.lt_succ_of_lt (hh.lt p (by simp [hp])), hh.turn⟩
          have hMa := HM.out.under ((Below.refl wr.heap.size wr).alloc (Nat.le_refl _) (.cells #[.int .u8 11, .int .i64 d.A, .int .i64 d.B, .slice d.o d.n d.cap] 24))
          obtain ⟨gO, rfl, cO, hc1, hc2, hpop⟩ := hMa.lasts
          have hturn : S.getD fp 0 = -1 ∨ (0 ≤ S.getD fp 0 ∧ S.getD fp 0 < (n : Int)) := by
            rcases HI.out.turn fp with h | h | h
            · exact Or.inl h
            · exact Or.inr h
            · omega
          have HT : Hid (type_of% (tie_any w _ gE gS n ini E S _ cap2 fp k hpop hn (by omega) hlt hturn)) := tie_any w _ gE gS n ini E S _ cap2 fp k hpop hn (by omega) hlt hturn
          clear HQ2 HR2 HOK HI hMa hpop hturn
          have hlln : (ini ++ [fp]).length = ini.length + 1 := by simp
          rw [hlln] at hopl hcp ⊢
          have hii0 : (0 : Int) ≤ (ini.length : Int) := by omega
          have hic : (ini.length : Int) ≤ (cap2 : Int) := by omega
          have hnlt : ¬ ((ini.length : Int) < 0) := by omega
          go_wp2_with fail
          refine HT.out.mono ?_
          rintro r w5 ⟨rfl, m5⟩
          have HM5 : Hid (type_of% m5) := m5
          clear m5 HT cO
          go_wp2
          go_roundw
          case rel => exact ⟨k + 1, ini, _, S, inib, false, _, cap2, by go_num, by go_num, by omega, HM5, HI3, HR3, HQ3⟩
          case measure => simp [intOf]; omega
      have HQ3 : Hid (mRun (k + 1) (L.drop (k + 1)) (op, E, S) = Q) := by
        have := HQ2.out
        rw [mStep, if_neg h2, if_neg h5, if_neg h11] at this
        exact this
      have HR3 : Hid ((nRun (L.drop (k + 1)) bs false).1 = 0) := by
        have := HR2.out
        unfold nStep at this
        rw [if_neg (by simp), if_neg (by simp), if_neg h2, if_neg h5, if_neg h11] at this
        exact this
      have HI3 : Hid (MI n (k + 1) op S bs) := HI.out.mono
      have ne : ∀ j : Int, opd ≠ j → (opd == j) = false := fun j hj => by rw [beq_eq_false_iff_ne]; exact hj
      have q2 := ne 2 (fun e => h2 (Or.inl e))
      have q3 := ne 3 (fun e => h2 (Or.inr (Or.inl e)))
      have q4 := ne 4 (fun e => h2 (Or.inr (Or.inr e)))
      have q5 := ne 5 h5
      have q11 := ne 11 h11
      have HM2 : Hid (type_of% (HM.out.under ((Below.refl wr.heap.size wr).alloc (Nat.le_refl _) (.cells #[.int .u8 opd, .int .i64 d.A, .int .i64 d.B, .slice d.o d.n d.cap] 24)))) := HM.out.under ((Below.refl wr.heap.size wr).alloc (Nat.le_refl _) (.cells #[.int .u8 opd, .int .i64 d.A, .int .i64 d.B, .slice d.o d.n d.cap] 24))
      clear HQ2 HR2 HOK HI h2 h5 h11
      go_wp2
      go_roundw
      case rel => exact ⟨k + 1, op, E, S, bs, false, o2, cap2, rfl, by go_num, by omega, HM2, HI3, HR3, HQ3⟩
      case measure => simp [intOf]; omega
    · have HE : Hid ((op, E, S) = Q) := by
        have := HQ.out
        rw [List.drop_eq_nil_of_le (by rw [HLn.out]; omega), mRun] at this
        exact this
      have HMF : Hid (MS w wr gE gS n Q.1 Q.2.1 Q.2.2 o2 cap2) := by
        unfold Hid
        rw [← HE.out]
        exact HM.out
      clear HM HE HQ HR HI
      go_wp2
      go_ret3
      exact ⟨gE, gS, o2, cap2, rfl, HMF.out⟩
end Go.Proofs.YtgdleahhkaolbaaDoor
