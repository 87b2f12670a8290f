/-
  What the program's own between does, for every piece of a body that was matched.
-/
import Derived.Test.YtmbficofcmfmlaaDoorNGrow4
namespace Go.Proofs.YtmbficofcmfmlaaDoor
open Go.RowKit

theorem val_alone (d : InsD) (k : Int) (hb : besV k = 1) (ho : d.op = k) (hl : d.xs.length = d.n) (hc : chkD d = 0) : d.val = ⟨k, 0, 0, []⟩ := by
  have h1 := val_chk d hl
  obtain ⟨_, hf⟩ := vchk_fit d.val (by rw [h1]; exact hc)
  have ho' : d.val.op = k := ho
  rw [ho', hb] at hf
  rcases hf with h | h | h | h | h | h | h | h | h
  · have hA : d.val.A = 0 := h.2.1
    have hB : d.val.B = 0 := h.2.2.1
    have hx : d.val.xs = [] := h.2.2.2
    have : d.val = ⟨d.val.op, d.val.A, d.val.B, d.val.xs⟩ := rfl
    rw [this, ho', hA, hB, hx]
  all_goals
    have := h.1
    omega
theorem segV_block (L : List InsD) (a q : Nat) (h : a < q) (hq : q < L.length) (v : V4) (hv : (L[q]).val = v) : segV L a (q + 1) = (L[a]'(by omega)).val :: (segV L (a + 1) q ++ [v]) := by
  rw [← segV_cat L a (a + 1) (q + 1) (by omega) (by omega), ← segV_cat L (a + 1) q (q + 1) (by omega) (by omega), segV_one L a (by omega), segV_one L q hq, hv]
  rfl
theorem segV_ifE (L : List InsD) (a t q : Nat) (h : a < t) (ht : t < q) (hq : q < L.length) (v u : V4) (hv : (L[q]).val = v) (hu : (L[t]'(by omega)).val = u) : segV L a (q + 1) = (L[a]'(by omega)).val :: (segV L (a + 1) t ++ (u :: segV L (t + 1) q ++ [v])) := by
  rw [← segV_cat L a (a + 1) (q + 1) (by omega) (by omega), ← segV_cat L (a + 1) t (q + 1) (by omega) (by omega), segV_one L a (by omega), ← segV_cat L t (t + 1) (q + 1) (by omega) (by omega), segV_one L t (by omega), ← segV_cat L (t + 1) q (q + 1) (by omega) (by omega), segV_one L q hq, hv, hu]
  simp
theorem between_any (b f cap gE gS : Nat) (L : List InsD) (E S : List Int) (hn : L.length ≤ 200) (hck : ∀ d ∈ L, chkD d = 0) : ∀ (m i j : Nat) (x y : Int) (D Z : Nat) (w : World), j - i ≤ m → x = (i : Int) → y = (j : Int) → GR w b f gE gS L E S → Seg L E S i j D Z →
    Calls Tryd.prog 38 #[.agg #[.slice (some ⟨b, f, none⟩) L.length cap, .slice (some ⟨gE, 0, none⟩) L.length L.length, .slice (some ⟨gS, 0, none⟩) L.length L.length], .int .i64 x, .int .i64 y] w fun r w' => BP w (segV L i j) D Z r w'
  | 0, i, j, x, y, D, Z, w, hm, hx, hy, hG, hs => between_core b f cap gE gS L.length i j x y L E S D Z w hx hy hG rfl hn hs fun a d s _ h1 h2 => by omega
  | m + 1, i, j, x, y, D, Z, w, hm, hx, hy, hG, hs => by
    refine between_core b f cap gE gS L.length i j x y L E S D Z w hx hy hG rfl hn hs fun a d s hsg haj hia => ?_
    obtain ⟨_, hjL⟩ := hsg.le
    have haL : a < L.length := by omega
    have hmem : L[a] ∈ L := List.getElem_mem haL
    have hopa := opAt_get L a haL
    have lens : ∀ d ∈ L, d.xs.length = d.n := fun d hd => (hG.ok d hd).lj.1
    have hend : ∀ q (hq : q < L.length), opAt L q = 11 → (L[q]).val = endV := fun q hq ho => val_alone (L[q]) 11 (by decide) (by rw [← opAt_get L q hq]; exact ho) (lens _ (List.getElem_mem hq)) (hck _ (List.getElem_mem hq))
    have helse : ∀ q (hq : q < L.length), opAt L q = 5 → (L[q]).val = elseV := fun q hq ho => val_alone (L[q]) 5 (by decide) (by rw [← opAt_get L q hq]; exact ho) (lens _ (List.getElem_mem hq)) (hck _ (List.getElem_mem hq))
    cases hsg with
    | nil => omega
    | single _ _ _ _ h o o5 o11 e r =>
      refine ⟨a + 1, [(L[a]).val], 0, 0, d, s, by omega, by omega, r, by omega, by omega, (segV_one L a haL).symm, Or.inl ⟨e, rfl⟩, fun w' bb => ?_⟩
      have hG' := hG.under bb
      rw [hopa] at o
      exact part_single b f cap gE gS L.length a (L[a]) w' hG'.bw haL hn (hG'.ok _ hmem) (hG'.few _ hmem) (fun h => o (Or.inl h)) (fun h => o (Or.inr (Or.inl h))) (fun h => o (Or.inr (Or.inr h))) (hG'.list a haL)
    | block _ q _ d1 s1 d s h hq o oq e r1 r =>
      refine ⟨q + 1, segV L a (q + 1), 1 + d1, 1 + s1, d, s, by omega, by omega, r, rfl, rfl, rfl, Or.inr ⟨by rw [e]; rfl, by omega⟩, fun w' bb => ?_⟩
      have hG' := hG.under bb
      have he := hG'.ends a haL
      rw [e] at he
      rw [segV_block L a q h (by omega) endV (hend q (by omega) oq)]
      rw [hopa] at o
      exact part_block b f cap gE gS L.length a q (L[a]) (segV L (a + 1) q) d1 s1 w' hG'.bw hG'.ew haL hn (hG'.ok _ hmem) (hG'.few _ hmem) o (hG'.list a haL) he fun x w2 hx b2 => between_any b f cap gE gS L E S hn hck m (a + 1) q x _ d1 s1 w2 (by omega) (by rw [hx]; omega) rfl (hG'.under b2) r1
    | ifN _ q _ d1 s1 d s h hq o oq e t r1 r =>
      refine ⟨q + 1, segV L a (q + 1), 1 + d1, 1 + s1, d, s, by omega, by omega, r, rfl, rfl, rfl, Or.inr ⟨by rw [e]; rfl, by omega⟩, fun w' bb => ?_⟩
      have hG' := hG.under bb
      rw [segV_block L a q h (by omega) endV (hend q (by omega) oq)]
      rw [hopa] at o
      have := part_choice b f cap gE gS L.length a (L[a]) false (segV L (a + 1) q) d1 s1 [] 0 0 w' hG'.bw haL hn (hG'.ok _ hmem) (hG'.few _ hmem) o (hG'.list a haL) fun d' w2 hok b2 => by
        have hG2 := hG'.under b2
        have he := hG2.ends a haL
        have ht := hG2.elses a haL
        rw [e] at he
        rw [t] at ht
        exact choice_no b f cap gE gS L.length a q d' (segV L (a + 1) q) d1 s1 w2 hG2.ew hG2.sw haL hn hok he ht fun x w3 hx b3 => between_any b f cap gE gS L E S hn hck m (a + 1) q x _ d1 s1 w3 (by omega) (by rw [hx]; omega) rfl (hG2.under b3) r1
      rw [show max (1 + d1) (1 + 0) = 1 + d1 by omega] at this
      exact this
    | ifE _ t q _ d1 s1 d2 s2 d s h ht hq o ot oq e te r1 r2 r =>
      refine ⟨q + 1, segV L a (q + 1), max (1 + d1) (1 + d2), 1 + s1 + s2, d, s, by omega, by omega, r, rfl, rfl, rfl, Or.inr ⟨by rw [e]; rfl, by omega⟩, fun w' bb => ?_⟩
      have hG' := hG.under bb
      rw [segV_ifE L a t q h ht (by omega) endV elseV (hend q (by omega) oq) (helse t (by omega) ot)]
      rw [hopa] at o
      exact part_choice b f cap gE gS L.length a (L[a]) true (segV L (a + 1) t) d1 s1 (segV L (t + 1) q) d2 s2 w' hG'.bw haL hn (hG'.ok _ hmem) (hG'.few _ hmem) o (hG'.list a haL) fun d' w2 hok b2 => by
        have hG2 := hG'.under b2
        have he := hG2.ends a haL
        have ht2 := hG2.elses a haL
        rw [e] at he
        rw [te] at ht2
        exact choice_yes b f cap gE gS L.length a t q d' (segV L (a + 1) t) d1 s1 (segV L (t + 1) q) d2 s2 w2 hG2.ew hG2.sw haL (by omega) hn hok he ht2 (fun x w3 hx b3 => between_any b f cap gE gS L E S hn hck m (a + 1) t x _ d1 s1 w3 (by omega) (by rw [hx]; omega) rfl (hG2.under b3) r1) (fun x w3 hx b3 => between_any b f cap gE gS L E S hn hck m (t + 1) q x _ d2 s2 w3 (by omega) (by rw [hx]; omega) rfl (hG2.under b3) r2)

end Go.Proofs.YtmbficofcmfmlaaDoor
