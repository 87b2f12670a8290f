/-
 The sections of a module, as they are written.
 moduleText: all sections, one behind the other.
 What bin.Write says of a module.
-/
import Derived.Test.YtakpkdckajjooaaGreatDoorWQV
import Derived.Test.YtakpkdckajjooaaGreatDoorWQG
set_option maxHeartbeats 8000000
set_option maxRecDepth 1000000
namespace Go.Proofs.YtakpkdckajjooaaGreatDoor
set_option linter.unusedVariables false
open Go.RowKit
theorem tSig_len (s : SigV) (h : GSig s) : (tSig s).length ≤ 1000 := by
 have h1 := tKs_len s.i 4 (by have := h.1.1; omega) (by omega)
 have h2 := tKs_len s.o 1 (by have := h.2.1; omega) (by omega)
 unfold tSig
 rw [List.length_cons, List.length_append]
 omega
theorem tExp_len (d : NamV) (h : GNam d) : (tExp d).length ≤ 1000 := by
 have h1 := tName_len d.s 16 h.1.1 (by omega)
 have h2 := uB_len10 d.n.toNat (by have := h.2.2; omega)
 unfold tExp
 rw [List.length_append, List.length_cons]
 omega
theorem tImp_len (d : NamV) (h : GNam d) : (tImp d).length ≤ 1000 := by
 have h1 := tName_len d.s 16 h.1.1 (by omega)
 have h2 := uB_len10 d.n.toNat (by have := h.2.2; omega)
 have h3 := tName_len host 4 (by decide) (by omega)
 unfold tImp tExp
 rw [List.length_append, List.length_append, List.length_cons]
 omega
theorem tGlo_len (d : GloV) (h : inI d.s) : (tGlo d).length ≤ 1000 := by
 have h1 := sB_len64 d.s h.1 h.2
 unfold tGlo
 simp
 omega
theorem tEle_len (d : EleV) (h : inI d.a) (hg : GEle d) : (tEle d).length ≤ 1000 := by
 have h1 := tPlace_len d.a h.1 h.2
 have h2 := tNs_len d.f 16 (by have := hg.2.1; omega) (by omega) (fun k hk => ⟨(hg.2.2 k hk).1, by have := (hg.2.2 k hk).2; omega⟩)
 unfold tEle
 rw [List.length_append]
 omega
theorem tDat_len (d : DatV) (h : inI d.a) (hg : GDat d) : (tDat d).length ≤ 1000 := by
 have h1 := tPlace_len d.a h.1 h.2
 have h2 := tName_len d.s 64 hg.2.1 (by omega)
 unfold tDat
 rw [List.length_append]
 omega
theorem body_len {w : World} {o : Option Addr} {b : List InsD} (h : LD w o b) (hg : GBody (b.map InsD.val)) : (bodyT (b.map InsD.val)).length ≤ 300000 := by
 have hc := (nChk0 h).2 hg
 obtain ⟨h200, h1, h2⟩ := nChk_zero b hc
 have hall := nRun_chk b [] false h1
 have h3 := bodyT_len (b.map InsD.val) fun v hv => by
  obtain ⟨d, hd, rfl⟩ := List.mem_map.1 hv
  have hv := val_chk d (h.lens d hd)
  have hfit : fitC (besV d.op) d.A d.B d.xs := (vchk_fit d.val (by rw [hv]; exact hall d hd)).2
  have := besT_len _ _ _ _ hfit (h.1 d hd).a
  show (d.op :: besT (besV d.op) d.A d.B d.xs).length ≤ 1001
  rw [List.length_cons]
  omega
 rw [List.length_map] at h3
 have h4 : b.length * 1001 ≤ 200 * 1001 := Nat.mul_le_mul_right _ h200
 omega
theorem tCode_len (c : CodV) (h : GCod c) (hb : (bodyT c.b).length ≤ 300000) : (tCode c).length ≤ 400000 := by
 have hg := grp_le c.l
 have hl : c.l.length ≤ 16 := by have := h.1.1; omega
 have h1 := uB_len10 (grp c.l).length (by omega)
 have h2 := flat_le tGrp 11 (grp c.l) (fun d hd => by have h1 := (hg.2 d hd).1; have h2 := uB_len10 d.1 (by omega); unfold tGrp; simp; omega)
 have h3 : (grp c.l).length * 11 ≤ 16 * 11 := Nat.mul_le_mul_right _ (by omega)
 have h4 : (cCode c).length ≤ 300200 := by
  unfold cCode tLocs
  rw [List.length_append, List.length_append]
  omega
 have h5 := uB_len10 (cCode c).length (by omega)
 unfold tCode
 rw [List.length_append]
 omega
theorem globalText_any (w : World) (d : GloD) (h : GloD.ok w d) : Calls Tryz.prog 80 #[.agg #[.int .u8 d.k, .bool d.m, .int .i64 d.s]] w (Txt w (tGlo d.val)) := by
 obtain ⟨k, m, s⟩ := d
 obtain ⟨h0, h1, h2, h3⟩ := h
 cases m with
 | false => exact globalText_0 w k s ⟨h0, by have : k ≤ 255 := h1; omega⟩ h2 h3
 | true => exact globalText_1 w k s ⟨h0, by have : k ≤ 255 := h1; omega⟩ h2 h3
theorem secT_if (n : Nat) (d : DrV) (p : Prop) [Decidable p] (x : List Int) (hx : x ≠ []) (h : secC n d = if p then [] else x) : secT n d = if p then [] else (n : Int) :: tName x := by
 unfold secT
 rw [h]
 by_cases hp : p
 ·simp [hp]
 ·rw [if_neg hp, if_neg hp, if_neg]
  ·rfl
  ·simpa using hx
theorem secT_lst {α β : Type} (n : Nat) (d : DrV) (t : β → List Int) (f : α → β) (L : List α) (h : secC n d = lst t (L.map f)) : secT n d = if L.length = 0 then [] else (n : Int) :: tName (uB L.length ++ L.flatMap fun a => t (f a)) := by
 have e : tList t (L.map f) = uB L.length ++ L.flatMap fun a => t (f a) := by
  unfold tList
  rw [List.length_map, List.flatMap_map]
 rw [← e]
 refine secT_if n d (L.length = 0) _ (tList_pos _ _) ?_
 rw [h]
 unfold lst
 cases L <;> simp
theorem list_len {α : Type} (L : List α) (t : α → List Int) (m U : Nat) (hm : L.length ≤ m) (hU : ∀ a ∈ L, (t a).length ≤ U) (hM : m ≤ 1000) : (uB L.length ++ L.flatMap t).length ≤ 10 + m * U := by
 have h1 := uB_len10 L.length (by omega)
 have h2 := flat_le t U L hU
 have h3 : L.length * U ≤ m * U := Nat.mul_le_mul_right _ hm
 rw [List.length_append]
 omega
theorem sec_len {n : Int} {x : List Int} {p : Prop} [Decidable p] (m : Nat) (h : x.length ≤ m) (hm : m ≤ 7000000) : (if p then [] else n :: tName x).length ≤ 8000000 := by
 have h1 := uB_len10 x.length (by omega)
 split
 ·simp
 ·unfold tName
  rw [List.length_cons, List.length_append]
  omega
theorem sec_sig (w0 w : World) (m : ModD) (hm : m.ok w0) (hb : Below w0.heap.size w0 w) (hA : Amb w0) (hg : GSec 1 m.val) :
  Calls Tryz.prog 71 #[.int .u8 1, .slice m.oT m.types.length m.cT, .func (.func 72) #[] #[]] w (Txt w (secT 1 m.val)) ∧ (secT 1 m.val).length ≤ 8000000 := by
 have hl : m.types.length ≤ 16 := by
  have h1 : ((m.types.map SigD.val).length : Int) ≤ 16 := hg.1
  rw [List.length_map] at h1
  omega
 have hE : ∀ d ∈ m.types, GSig (SigD.val d) := fun d hd => hg.2 _ (List.mem_map_of_mem hd)
 have hU : ∀ d ∈ m.types, (tSig (SigD.val d)).length ≤ 1000 := fun d hd => tSig_len _ (hE d hd)
 rw [secT_lst 1 m.val tSig SigD.val m.types rfl]
 have hx := list_len m.types (fun a => tSig (SigD.val a)) 16 1000 hl hU (by omega)
 have _hA : Amb w0 := hA
 refine ⟨listSection_sig w 1 (by omega) (by omega) m.oT m.types.length m.cT _ _ (Nat.le_trans hx (by omega)) ?_, sec_len _ hx (by omega)⟩
 intro _
 exact listText_sig w0.heap.size w0 w (fun a => tSig (SigD.val a)) 1000 (by omega) m.types m.oT m.types.length m.cT rfl hm.types.le (by omega) (hm.types.atN (Nat.le_refl _)) hb hb.size hU (fun d hd w' b _ => sigText_any w0 w' d.i d.r b (hm.types.all d hd).1 (hm.types.all d hd).2 (Int.ofNat_le.1 (show ((d.i.xs.length : Nat) : Int) ≤ ((4 : Nat) : Int) from (hE d hd).1.1)) (Int.ofNat_le.1 (show ((d.r.xs.length : Nat) : Int) ≤ ((1 : Nat) : Int) from (hE d hd).2.1)) (fun k hk => isK_byte ((hE d hd).1.2 k hk) k (by simp)) (fun k hk => isK_byte ((hE d hd).2.2 k hk) k (by simp)))
theorem sec_imp (w0 w : World) (m : ModD) (hm : m.ok w0) (hb : Below w0.heap.size w0 w) (hA : Amb w0) (hg : GSec 2 m.val) :
  Calls Tryz.prog 73 #[.int .u8 2, .slice m.oI m.imports.length m.cI, .func (.func 74) #[] #[]] w (Txt w (secT 2 m.val)) ∧ (secT 2 m.val).length ≤ 8000000 := by
 have hl : m.imports.length ≤ 16 := by
  have h1 : ((m.imports.map NamD.val).length : Int) ≤ 16 := hg.1
  rw [List.length_map] at h1
  omega
 have hE : ∀ d ∈ m.imports, GNam (NamD.val d) := fun d hd => hg.2 _ (List.mem_map_of_mem hd)
 have hU : ∀ d ∈ m.imports, (tImp (NamD.val d)).length ≤ 1000 := fun d hd => tImp_len _ (hE d hd)
 rw [secT_lst 2 m.val tImp NamD.val m.imports rfl]
 have hx := list_len m.imports (fun a => tImp (NamD.val a)) 16 1000 hl hU (by omega)
 have _hA : Amb w0 := hA
 refine ⟨listSection_imp w 2 (by omega) (by omega) m.oI m.imports.length m.cI _ _ (Nat.le_trans hx (by omega)) ?_, sec_len _ hx (by omega)⟩
 intro _
 exact listText_imp w0.heap.size w0 w (fun a => tImp (NamD.val a)) 1000 (by omega) m.imports m.oI m.imports.length m.cI rfl hm.imports.le (by omega) (hm.imports.atN (Nat.le_refl _)) hb hb.size hU (fun d hd w' b _ => importText_any w0 w' d.s d.n b hA ((chkName0 d.s).2 (hE d hd).1) (by have := (hE d hd).1.1; rw [← nums_length]; exact this) (hE d hd).2.1 (hE d hd).2.2)
theorem sec_typ (w0 w : World) (m : ModD) (hm : m.ok w0) (hb : Below w0.heap.size w0 w) (hA : Amb w0) (hg : GSec 3 m.val) :
  Calls Tryz.prog 75 #[.int .u8 3, .slice m.oF m.funcs.length m.cF, .func (.func 76) #[] #[]] w (Txt w (secT 3 m.val)) ∧ (secT 3 m.val).length ≤ 8000000 := by
 have hl : m.funcs.length ≤ 16 := by
  have h1 : ((m.funcs.map FunD.t).length : Int) ≤ 16 := hg.1
  rw [List.length_map] at h1
  omega
 have hE : ∀ d ∈ m.funcs, isNum d.t := fun d hd => hg.2 _ (List.mem_map_of_mem hd)
 have hU : ∀ d ∈ m.funcs, ((fun n => uB n.toNat) (FunD.t d)).length ≤ 1000 := fun d hd => by have := uB_len10 d.t.toNat (by have := (hE d hd).2; omega); exact (by omega : (uB d.t.toNat).length ≤ 1000)
 rw [secT_lst 3 m.val (fun n => uB n.toNat) FunD.t m.funcs rfl]
 have hx := list_len m.funcs (fun a => (fun n => uB n.toNat) (FunD.t a)) 16 1000 hl hU (by omega)
 have _hA : Amb w0 := hA
 refine ⟨listSection_fun w 3 (by omega) (by omega) m.oF m.funcs.length m.cF _ _ (Nat.le_trans hx (by omega)) ?_, sec_len _ hx (by omega)⟩
 intro _
 exact listText_typ w0.heap.size w0 w (fun a => (fun n => uB n.toNat) (FunD.t a)) 1000 (by omega) m.funcs m.oF m.funcs.length m.cF rfl hm.funcs.le (by omega) (hm.funcs.atN (Nat.le_refl _)) hb hb.size hU (fun d hd w' _ _ => typeText_any w' d.t (hE d hd).1 (by have := (hE d hd).2; omega) _ _)
theorem sec_glo (w0 w : World) (m : ModD) (hm : m.ok w0) (hb : Below w0.heap.size w0 w) (hA : Amb w0) (hg : GSec 6 m.val) :
  Calls Tryz.prog 79 #[.int .u8 6, .slice m.oG m.globals.length m.cG, .func (.func 80) #[] #[]] w (Txt w (secT 6 m.val)) ∧ (secT 6 m.val).length ≤ 8000000 := by
 have hl : m.globals.length ≤ 8 := by
  have h1 : ((m.globals.map GloD.val).length : Int) ≤ 8 := hg.1
  rw [List.length_map] at h1
  omega
 have hE : ∀ d ∈ m.globals, GGlo (GloD.val d) := fun d hd => hg.2 _ (List.mem_map_of_mem hd)
 have hU : ∀ d ∈ m.globals, (tGlo (GloD.val d)).length ≤ 1000 := fun d hd => tGlo_len _ (hm.globals.all d hd).2.2
 rw [secT_lst 6 m.val tGlo GloD.val m.globals rfl]
 have hx := list_len m.globals (fun a => tGlo (GloD.val a)) 8 1000 hl hU (by omega)
 have _hA : Amb w0 := hA
 refine ⟨listSection_glo w 6 (by omega) (by omega) m.oG m.globals.length m.cG _ _ (Nat.le_trans hx (by omega)) ?_, sec_len _ hx (by omega)⟩
 intro _
 exact listText_glo w0.heap.size w0 w (fun a => tGlo (GloD.val a)) 1000 (by omega) m.globals m.oG m.globals.length m.cG rfl hm.globals.le (by omega) (hm.globals.atN (Nat.le_refl _)) hb hb.size hU (fun d hd w' _ _ => globalText_any w' d (hm.globals.all d hd))
theorem sec_exp (w0 w : World) (m : ModD) (hm : m.ok w0) (hb : Below w0.heap.size w0 w) (hA : Amb w0) (hg : GSec 7 m.val) :
  Calls Tryz.prog 81 #[.int .u8 7, .slice m.oE m.exports.length m.cE, .func (.func 82) #[] #[]] w (Txt w (secT 7 m.val)) ∧ (secT 7 m.val).length ≤ 8000000 := by
 have hl : m.exports.length ≤ 8 := by
  have h1 : ((m.exports.map NamD.val).length : Int) ≤ 8 := hg.1
  rw [List.length_map] at h1
  omega
 have hE : ∀ d ∈ m.exports, GNam (NamD.val d) := fun d hd => hg.2 _ (List.mem_map_of_mem hd)
 have hU : ∀ d ∈ m.exports, (tExp (NamD.val d)).length ≤ 1000 := fun d hd => tExp_len _ (hE d hd)
 rw [secT_lst 7 m.val tExp NamD.val m.exports rfl]
 have hx := list_len m.exports (fun a => tExp (NamD.val a)) 8 1000 hl hU (by omega)
 have _hA : Amb w0 := hA
 refine ⟨listSection_exp w 7 (by omega) (by omega) m.oE m.exports.length m.cE _ _ (Nat.le_trans hx (by omega)) ?_, sec_len _ hx (by omega)⟩
 intro _
 exact listText_exp w0.heap.size w0 w (fun a => tExp (NamD.val a)) 1000 (by omega) m.exports m.oE m.exports.length m.cE rfl hm.exports.le (by omega) (hm.exports.atN (Nat.le_refl _)) hb hb.size hU (fun d hd w' b _ => exportText_any w0 w' d.s d.n b hA ((chkName0 d.s).2 (hE d hd).1) (by have := (hE d hd).1.1; rw [← nums_length]; exact this) (hE d hd).2.1 (hE d hd).2.2)
theorem sec_ele (w0 w : World) (m : ModD) (hm : m.ok w0) (hb : Below w0.heap.size w0 w) (hA : Amb w0) (hg : GSec 9 m.val) :
  Calls Tryz.prog 84 #[.int .u8 9, .slice m.oL m.elems.length m.cL, .func (.func 85) #[] #[]] w (Txt w (secT 9 m.val)) ∧ (secT 9 m.val).length ≤ 8000000 := by
 have hl : m.elems.length ≤ 4 := by
  have h1 : ((m.elems.map EleD.val).length : Int) ≤ 4 := hg.1
  rw [List.length_map] at h1
  omega
 have hE : ∀ d ∈ m.elems, GEle (EleD.val d) := fun d hd => hg.2 _ (List.mem_map_of_mem hd)
 have hU : ∀ d ∈ m.elems, (tEle (EleD.val d)).length ≤ 1000 := fun d hd => tEle_len _ (hm.elems.all d hd).1 (hE d hd)
 rw [secT_lst 9 m.val tEle EleD.val m.elems rfl]
 have hx := list_len m.elems (fun a => tEle (EleD.val a)) 4 1000 hl hU (by omega)
 have _hA : Amb w0 := hA
 refine ⟨listSection_ele w 9 (by omega) (by omega) m.oL m.elems.length m.cL _ _ (Nat.le_trans hx (by omega)) ?_, sec_len _ hx (by omega)⟩
 intro _
 exact listText_ele w0.heap.size w0 w (fun a => tEle (EleD.val a)) 1000 (by omega) m.elems m.oL m.elems.length m.cL rfl hm.elems.le (by omega) (hm.elems.atN (Nat.le_refl _)) hb hb.size hU (fun d hd w' b _ => elemText_any w0 w' d.a d.f b (hm.elems.all d hd).1.1 (hm.elems.all d hd).1.2 (hm.elems.all d hd).2 (Int.ofNat_le.1 (show ((d.f.xs.length : Nat) : Int) ≤ ((16 : Nat) : Int) from (hE d hd).2.1)) (fun k hk => ⟨((hE d hd).2.2 k hk).1, by have := ((hE d hd).2.2 k hk).2; omega⟩))
theorem sec_cod (w0 w : World) (m : ModD) (hm : m.ok w0) (hb : Below w0.heap.size w0 w) (hA : Amb w0) (hg : GSec 10 m.val) :
  Calls Tryz.prog 75 #[.int .u8 10, .slice m.oF m.funcs.length m.cF, .func (.func 86) #[] #[]] w (Txt w (secT 10 m.val)) ∧ (secT 10 m.val).length ≤ 8000000 := by
 have hl : m.funcs.length ≤ 16 := by
  have h1 : ((m.funcs.map FunD.cod).length : Int) ≤ 16 := hg.1
  rw [List.length_map] at h1
  omega
 have hE : ∀ d ∈ m.funcs, GCod (FunD.cod d) := fun d hd => hg.2 _ (List.mem_map_of_mem hd)
 have hU : ∀ d ∈ m.funcs, (tCode (FunD.cod d)).length ≤ 400000 := fun d hd => tCode_len _ (hE d hd) (body_len (hm.funcs.all d hd).2.2.1 (hE d hd).2)
 rw [secT_lst 10 m.val tCode FunD.cod m.funcs rfl]
 have hx := list_len m.funcs (fun a => tCode (FunD.cod a)) 16 400000 hl hU (by omega)
 have _hA : Amb w0 := hA
 refine ⟨listSection_fun w 10 (by omega) (by omega) m.oF m.funcs.length m.cF _ _ (Nat.le_trans hx (by omega)) ?_, sec_len _ hx (by omega)⟩
 intro _
 exact listText_cod w0.heap.size w0 w (fun a => tCode (FunD.cod a)) 400000 (by omega) m.funcs m.oF m.funcs.length m.cF rfl hm.funcs.le (by omega) (hm.funcs.atN (Nat.le_refl _)) hb hb.size hU (fun d hd w' b _ => codeText_any w0 w' d.t d.l d.o d.cap d.b b hA (hm.funcs.all d hd).2.1 (Int.ofNat_le.1 (show ((d.l.xs.length : Nat) : Int) ≤ ((16 : Nat) : Int) from (hE d hd).1.1)) (fun k hk => isK_byte ((hE d hd).1.2 k hk) k (by simp)) (hm.funcs.all d hd).2.2.1 (hm.funcs.all d hd).2.2.2.1 ((nChk0 (hm.funcs.all d hd).2.2.1).2 (hE d hd).2) (body_len (hm.funcs.all d hd).2.2.1 (hE d hd).2))
theorem sec_dat (w0 w : World) (m : ModD) (hm : m.ok w0) (hb : Below w0.heap.size w0 w) (hA : Amb w0) (hg : GSec 11 m.val) :
  Calls Tryz.prog 87 #[.int .u8 11, .slice m.oD m.data.length m.cD, .func (.func 88) #[] #[]] w (Txt w (secT 11 m.val)) ∧ (secT 11 m.val).length ≤ 8000000 := by
 have hl : m.data.length ≤ 4 := by
  have h1 : ((m.data.map DatD.val).length : Int) ≤ 4 := hg.1
  rw [List.length_map] at h1
  omega
 have hE : ∀ d ∈ m.data, GDat (DatD.val d) := fun d hd => hg.2 _ (List.mem_map_of_mem hd)
 have hU : ∀ d ∈ m.data, (tDat (DatD.val d)).length ≤ 1000 := fun d hd => tDat_len _ (hm.data.all d hd).1 (hE d hd)
 rw [secT_lst 11 m.val tDat DatD.val m.data rfl]
 have hx := list_len m.data (fun a => tDat (DatD.val a)) 4 1000 hl hU (by omega)
 have _hA : Amb w0 := hA
 refine ⟨listSection_dat w 11 (by omega) (by omega) m.oD m.data.length m.cD _ _ (Nat.le_trans hx (by omega)) ?_, sec_len _ hx (by omega)⟩
 intro _
 exact listText_dat w0.heap.size w0 w (fun a => tDat (DatD.val a)) 1000 (by omega) m.data m.oD m.data.length m.cD rfl hm.data.le (by omega) (hm.data.atN (Nat.le_refl _)) hb hb.size hU (fun d hd w' _ _ => dataText_any w' d.a d.s (hm.data.all d hd).1.1 (hm.data.all d hd).1.2 (by have := (hE d hd).2.1; rw [← nums_length]; exact this))
end Go.Proofs.YtakpkdckajjooaaGreatDoor
namespace Go.Proofs.YtakpkdckajjooaaGreatDoor
set_option linter.unusedVariables false
open Go.RowKit
theorem agg11 {w w' : World} {c0 c1 c2 c3 c4 c5 c6 c7 c8 c9 c10 : Value} {t : TypeId} (h : Below (w.heap.size + 1) (w.alloc (.cells #[c0, c1, c2, c3, c4, c5, c6, c7, c8, c9, c10] t)) w') : w'.cell? ⟨w.heap.size, 0, none⟩ = some c0 ∧ w'.cell? ⟨w.heap.size, 1, none⟩ = some c1 ∧ w'.cell? ⟨w.heap.size, 2, none⟩ = some c2 ∧ w'.cell? ⟨w.heap.size, 3, none⟩ = some c3 ∧ w'.cell? ⟨w.heap.size, 4, none⟩ = some c4 ∧ w'.cell? ⟨w.heap.size, 5, none⟩ = some c5 ∧ w'.cell? ⟨w.heap.size, 6, none⟩ = some c6 ∧ w'.cell? ⟨w.heap.size, 7, none⟩ = some c7 ∧ w'.cell? ⟨w.heap.size, 8, none⟩ = some c8 ∧ w'.cell? ⟨w.heap.size, 9, none⟩ = some c9 ∧ w'.cell? ⟨w.heap.size, 10, none⟩ = some c10 := by
 have := (h.block w.heap.size (Nat.lt_succ_self _)).trans (heap_alloc_new w _)
 simp [World.cell?, this]
theorem moduleText_core (w : World) (oT oI oF oG oE oL oD : Option Addr) (nT nI nF nG nE nL nD cT cI cF cG cE cL cD : Nat) (tb pg mo st : Int) (x1 x2 x3 x4 x5 x6 x7 x8 x9 x10 x11 : List Int) 
  (HC1 : Hid (∀ w', Below (w.heap.size + 1) (w.alloc (.cells #[.slice oT nT cT, .slice oI nI cI, .slice oF nF cF, .int .i64 tb, .int .i64 pg, .int .i64 mo, .slice oG nG cG, .slice oE nE cE, .int .i64 st, .slice oL nL cL, .slice oD nD cD] 30)) w' → Calls Tryz.prog 71 #[.int .u8 1, .slice oT nT cT, .func (.func 72) #[] #[]] w' (Txt w' x1))) (HL1 : Hid (x1.length ≤ 8000000))
  (HC2 : Hid (∀ w', Below (w.heap.size + 1) (w.alloc (.cells #[.slice oT nT cT, .slice oI nI cI, .slice oF nF cF, .int .i64 tb, .int .i64 pg, .int .i64 mo, .slice oG nG cG, .slice oE nE cE, .int .i64 st, .slice oL nL cL, .slice oD nD cD] 30)) w' → Calls Tryz.prog 73 #[.int .u8 2, .slice oI nI cI, .func (.func 74) #[] #[]] w' (Txt w' x2))) (HL2 : Hid (x2.length ≤ 8000000))
  (HC3 : Hid (∀ w', Below (w.heap.size + 1) (w.alloc (.cells #[.slice oT nT cT, .slice oI nI cI, .slice oF nF cF, .int .i64 tb, .int .i64 pg, .int .i64 mo, .slice oG nG cG, .slice oE nE cE, .int .i64 st, .slice oL nL cL, .slice oD nD cD] 30)) w' → Calls Tryz.prog 75 #[.int .u8 3, .slice oF nF cF, .func (.func 76) #[] #[]] w' (Txt w' x3))) (HL3 : Hid (x3.length ≤ 8000000))
  (HC4 : Hid (∀ w', Below (w.heap.size + 1) (w.alloc (.cells #[.slice oT nT cT, .slice oI nI cI, .slice oF nF cF, .int .i64 tb, .int .i64 pg, .int .i64 mo, .slice oG nG cG, .slice oE nE cE, .int .i64 st, .slice oL nL cL, .slice oD nD cD] 30)) w' → Calls Tryz.prog 77 #[.int .i64 tb] w' (Txt w' x4))) (HL4 : Hid (x4.length ≤ 8000000))
  (HC5 : Hid (∀ w', Below (w.heap.size + 1) (w.alloc (.cells #[.slice oT nT cT, .slice oI nI cI, .slice oF nF cF, .int .i64 tb, .int .i64 pg, .int .i64 mo, .slice oG nG cG, .slice oE nE cE, .int .i64 st, .slice oL nL cL, .slice oD nD cD] 30)) w' → Calls Tryz.prog 78 #[.int .i64 pg, .int .i64 mo] w' (Txt w' x5))) (HL5 : Hid (x5.length ≤ 8000000))
  (HC6 : Hid (∀ w', Below (w.heap.size + 1) (w.alloc (.cells #[.slice oT nT cT, .slice oI nI cI, .slice oF nF cF, .int .i64 tb, .int .i64 pg, .int .i64 mo, .slice oG nG cG, .slice oE nE cE, .int .i64 st, .slice oL nL cL, .slice oD nD cD] 30)) w' → Calls Tryz.prog 79 #[.int .u8 6, .slice oG nG cG, .func (.func 80) #[] #[]] w' (Txt w' x6))) (HL6 : Hid (x6.length ≤ 8000000))
  (HC7 : Hid (∀ w', Below (w.heap.size + 1) (w.alloc (.cells #[.slice oT nT cT, .slice oI nI cI, .slice oF nF cF, .int .i64 tb, .int .i64 pg, .int .i64 mo, .slice oG nG cG, .slice oE nE cE, .int .i64 st, .slice oL nL cL, .slice oD nD cD] 30)) w' → Calls Tryz.prog 81 #[.int .u8 7, .slice oE nE cE, .func (.func 82) #[] #[]] w' (Txt w' x7))) (HL7 : Hid (x7.length ≤ 8000000))
  (HC8 : Hid (∀ w', Below (w.heap.size + 1) (w.alloc (.cells #[.slice oT nT cT, .slice oI nI cI, .slice oF nF cF, .int .i64 tb, .int .i64 pg, .int .i64 mo, .slice oG nG cG, .slice oE nE cE, .int .i64 st, .slice oL nL cL, .slice oD nD cD] 30)) w' → Calls Tryz.prog 83 #[.int .i64 st] w' (Txt w' x8))) (HL8 : Hid (x8.length ≤ 8000000))
  (HC9 : Hid (∀ w', Below (w.heap.size + 1) (w.alloc (.cells #[.slice oT nT cT, .slice oI nI cI, .slice oF nF cF, .int .i64 tb, .int .i64 pg, .int .i64 mo, .slice oG nG cG, .slice oE nE cE, .int .i64 st, .slice oL nL cL, .slice oD nD cD] 30)) w' → Calls Tryz.prog 84 #[.int .u8 9, .slice oL nL cL, .func (.func 85) #[] #[]] w' (Txt w' x9))) (HL9 : Hid (x9.length ≤ 8000000))
  (HC10 : Hid (∀ w', Below (w.heap.size + 1) (w.alloc (.cells #[.slice oT nT cT, .slice oI nI cI, .slice oF nF cF, .int .i64 tb, .int .i64 pg, .int .i64 mo, .slice oG nG cG, .slice oE nE cE, .int .i64 st, .slice oL nL cL, .slice oD nD cD] 30)) w' → Calls Tryz.prog 75 #[.int .u8 10, .slice oF nF cF, .func (.func 86) #[] #[]] w' (Txt w' x10))) (HL10 : Hid (x10.length ≤ 8000000))
  (HC11 : Hid (∀ w', Below (w.heap.size + 1) (w.alloc (.cells #[.slice oT nT cT, .slice oI nI cI, .slice oF nF cF, .int .i64 tb, .int .i64 pg, .int .i64 mo, .slice oG nG cG, .slice oE nE cE, .int .i64 st, .slice oL nL cL, .slice oD nD cD] 30)) w' → Calls Tryz.prog 87 #[.int .u8 11, .slice oD nD cD, .func (.func 88) #[] #[]] w' (Txt w' x11))) (HL11 : Hid (x11.length ≤ 8000000)) :
  Calls Tryz.prog 26 #[.agg #[.slice oT nT cT, .slice oI nI cI, .slice oF nF cF, .int .i64 tb, .int .i64 pg, .int .i64 mo, .slice oG nG cG, .slice oE nE cE, .int .i64 st, .slice oL nL cL, .slice oD nD cD]] w (Txt w (head8 ++ x1 ++ x2 ++ x3 ++ x4 ++ x5 ++ x6 ++ x7 ++ x8 ++ x9 ++ x10 ++ x11)) := by
 go_enter Tryz.func26, Tryz.ntmps26
 go_wp2
 go_region_held3 (fun w' => w'.cell? ⟨w.heap.size, 0, none⟩ = some (.slice oT nT cT) ∧ w'.cell? ⟨w.heap.size, 1, none⟩ = some (.slice oI nI cI) ∧ w'.cell? ⟨w.heap.size, 2, none⟩ = some (.slice oF nF cF) ∧ w'.cell? ⟨w.heap.size, 3, none⟩ = some (.int .i64 tb) ∧ w'.cell? ⟨w.heap.size, 4, none⟩ = some (.int .i64 pg) ∧ w'.cell? ⟨w.heap.size, 5, none⟩ = some (.int .i64 mo) ∧ w'.cell? ⟨w.heap.size, 6, none⟩ = some (.slice oG nG cG) ∧ w'.cell? ⟨w.heap.size, 7, none⟩ = some (.slice oE nE cE) ∧ w'.cell? ⟨w.heap.size, 8, none⟩ = some (.int .i64 st) ∧ w'.cell? ⟨w.heap.size, 9, none⟩ = some (.slice oL nL cL) ∧ w'.cell? ⟨w.heap.size, 10, none⟩ = some (.slice oD nD cD))
  (first | exact agg11 bch | go_keep)
  (first
   | (go_at_call 71; (fail_if_success (have := HT1)); refine (HC1.out _ ?_).mono ?_; exact bch; rintro r w1 ⟨t1, rfl, ht1, b1⟩; have hz1 : t1.size ≤ 8000000 := Nat.le_trans (Nat.le_of_eq (size_of ht1)) HL1.out; have HT1 : Hid (type_of% ht1) := ht1; have HB1 : Hid (type_of% b1) := b1; have HA1 : Hid (Below (w.heap.size + 1) (w.alloc (.cells #[.slice oT nT cT, .slice oI nI cI, .slice oF nF cF, .int .i64 tb, .int .i64 pg, .int .i64 mo, .slice oG nG cG, .slice oE nE cE, .int .i64 st, .slice oL nL cL, .slice oD nD cD] 30)) w1) := (by (refine Below.trans ?_ (b1.mono ?_) <;> first | exact bch | exact bcl)); have hs1 : w.heap.size + 1 ≤ w1.heap.size := box_size HA1.out; have hq1 : ¬ 9223372036854775807 < 8 + t1.size := (by omega); clear ht1 b1)
   | (go_at_call 73; (fail_if_success (have := HT2)); refine (HC2.out _ ?_).mono ?_; exact bch; rintro r w2 ⟨t2, rfl, ht2, b2⟩; have hz2 : t2.size ≤ 8000000 := Nat.le_trans (Nat.le_of_eq (size_of ht2)) HL2.out; have HT2 : Hid (type_of% ht2) := ht2; have HB2 : Hid (type_of% b2) := b2; have HA2 : Hid (Below (w.heap.size + 1) (w.alloc (.cells #[.slice oT nT cT, .slice oI nI cI, .slice oF nF cF, .int .i64 tb, .int .i64 pg, .int .i64 mo, .slice oG nG cG, .slice oE nE cE, .int .i64 st, .slice oL nL cL, .slice oD nD cD] 30)) w2) := (by (refine Below.trans ?_ (b2.mono ?_) <;> first | exact bch | exact bcl)); have hs2 : w.heap.size + 1 ≤ w2.heap.size := box_size HA2.out; have hq2 : ¬ 9223372036854775807 < 8 + t1.size + t2.size := (by omega); clear ht2 b2)
   | (go_at_call 75; (fail_if_success (have := HT3)); refine (HC3.out _ ?_).mono ?_; exact bch; rintro r w3 ⟨t3, rfl, ht3, b3⟩; have hz3 : t3.size ≤ 8000000 := Nat.le_trans (Nat.le_of_eq (size_of ht3)) HL3.out; have HT3 : Hid (type_of% ht3) := ht3; have HB3 : Hid (type_of% b3) := b3; have HA3 : Hid (Below (w.heap.size + 1) (w.alloc (.cells #[.slice oT nT cT, .slice oI nI cI, .slice oF nF cF, .int .i64 tb, .int .i64 pg, .int .i64 mo, .slice oG nG cG, .slice oE nE cE, .int .i64 st, .slice oL nL cL, .slice oD nD cD] 30)) w3) := (by (refine Below.trans ?_ (b3.mono ?_) <;> first | exact bch | exact bcl)); have hs3 : w.heap.size + 1 ≤ w3.heap.size := box_size HA3.out; have hq3 : ¬ 9223372036854775807 < 8 + t1.size + t2.size + t3.size := (by omega); clear ht3 b3)
   | (go_at_call 77; (fail_if_success (have := HT4)); refine (HC4.out _ ?_).mono ?_; exact bch; rintro r w4 ⟨t4, rfl, ht4, b4⟩; have hz4 : t4.size ≤ 8000000 := Nat.le_trans (Nat.le_of_eq (size_of ht4)) HL4.out; have HT4 : Hid (type_of% ht4) := ht4; have HB4 : Hid (type_of% b4) := b4; have HA4 : Hid (Below (w.heap.size + 1) (w.alloc (.cells #[.slice oT nT cT, .slice oI nI cI, .slice oF nF cF, .int .i64 tb, .int .i64 pg, .int .i64 mo, .slice oG nG cG, .slice oE nE cE, .int .i64 st, .slice oL nL cL, .slice oD nD cD] 30)) w4) := (by (refine Below.trans ?_ (b4.mono ?_) <;> first | exact bch | exact bcl)); have hs4 : w.heap.size + 1 ≤ w4.heap.size := box_size HA4.out; have hq4 : ¬ 9223372036854775807 < 8 + t1.size + t2.size + t3.size + t4.size := (by omega); clear ht4 b4)
   | (go_at_call 78; (fail_if_success (have := HT5)); refine (HC5.out _ ?_).mono ?_; exact bch; rintro r w5 ⟨t5, rfl, ht5, b5⟩; have hz5 : t5.size ≤ 8000000 := Nat.le_trans (Nat.le_of_eq (size_of ht5)) HL5.out; have HT5 : Hid (type_of% ht5) := ht5; have HB5 : Hid (type_of% b5) := b5; have HA5 : Hid (Below (w.heap.size + 1) (w.alloc (.cells #[.slice oT nT cT, .slice oI nI cI, .slice oF nF cF, .int .i64 tb, .int .i64 pg, .int .i64 mo, .slice oG nG cG, .slice oE nE cE, .int .i64 st, .slice oL nL cL, .slice oD nD cD] 30)) w5) := (by (refine Below.trans ?_ (b5.mono ?_) <;> first | exact bch | exact bcl)); have hs5 : w.heap.size + 1 ≤ w5.heap.size := box_size HA5.out; have hq5 : ¬ 9223372036854775807 < 8 + t1.size + t2.size + t3.size + t4.size + t5.size := (by omega); clear ht5 b5)
   | (go_at_call 79; (fail_if_success (have := HT6)); refine (HC6.out _ ?_).mono ?_; exact bch; rintro r w6 ⟨t6, rfl, ht6, b6⟩; have hz6 : t6.size ≤ 8000000 := Nat.le_trans (Nat.le_of_eq (size_of ht6)) HL6.out; have HT6 : Hid (type_of% ht6) := ht6; have HB6 : Hid (type_of% b6) := b6; have HA6 : Hid (Below (w.heap.size + 1) (w.alloc (.cells #[.slice oT nT cT, .slice oI nI cI, .slice oF nF cF, .int .i64 tb, .int .i64 pg, .int .i64 mo, .slice oG nG cG, .slice oE nE cE, .int .i64 st, .slice oL nL cL, .slice oD nD cD] 30)) w6) := (by (refine Below.trans ?_ (b6.mono ?_) <;> first | exact bch | exact bcl)); have hs6 : w.heap.size + 1 ≤ w6.heap.size := box_size HA6.out; have hq6 : ¬ 9223372036854775807 < 8 + t1.size + t2.size + t3.size + t4.size + t5.size + t6.size := (by omega); clear ht6 b6)
   | (go_at_call 81; (fail_if_success (have := HT7)); refine (HC7.out _ ?_).mono ?_; exact bch; rintro r w7 ⟨t7, rfl, ht7, b7⟩; have hz7 : t7.size ≤ 8000000 := Nat.le_trans (Nat.le_of_eq (size_of ht7)) HL7.out; have HT7 : Hid (type_of% ht7) := ht7; have HB7 : Hid (type_of% b7) := b7; have HA7 : Hid (Below (w.heap.size + 1) (w.alloc (.cells #[.slice oT nT cT, .slice oI nI cI, .slice oF nF cF, .int .i64 tb, .int .i64 pg, .int .i64 mo, .slice oG nG cG, .slice oE nE cE, .int .i64 st, .slice oL nL cL, .slice oD nD cD] 30)) w7) := (by (refine Below.trans ?_ (b7.mono ?_) <;> first | exact bch | exact bcl)); have hs7 : w.heap.size + 1 ≤ w7.heap.size := box_size HA7.out; have hq7 : ¬ 9223372036854775807 < 8 + t1.size + t2.size + t3.size + t4.size + t5.size + t6.size + t7.size := (by omega); clear ht7 b7)
   | (go_at_call 83; (fail_if_success (have := HT8)); refine (HC8.out _ ?_).mono ?_; exact bch; rintro r w8 ⟨t8, rfl, ht8, b8⟩; have hz8 : t8.size ≤ 8000000 := Nat.le_trans (Nat.le_of_eq (size_of ht8)) HL8.out; have HT8 : Hid (type_of% ht8) := ht8; have HB8 : Hid (type_of% b8) := b8; have HA8 : Hid (Below (w.heap.size + 1) (w.alloc (.cells #[.slice oT nT cT, .slice oI nI cI, .slice oF nF cF, .int .i64 tb, .int .i64 pg, .int .i64 mo, .slice oG nG cG, .slice oE nE cE, .int .i64 st, .slice oL nL cL, .slice oD nD cD] 30)) w8) := (by (refine Below.trans ?_ (b8.mono ?_) <;> first | exact bch | exact bcl)); have hs8 : w.heap.size + 1 ≤ w8.heap.size := box_size HA8.out; have hq8 : ¬ 9223372036854775807 < 8 + t1.size + t2.size + t3.size + t4.size + t5.size + t6.size + t7.size + t8.size := (by omega); clear ht8 b8)
   | (go_at_call 84; (fail_if_success (have := HT9)); refine (HC9.out _ ?_).mono ?_; exact bch; rintro r w9 ⟨t9, rfl, ht9, b9⟩; have hz9 : t9.size ≤ 8000000 := Nat.le_trans (Nat.le_of_eq (size_of ht9)) HL9.out; have HT9 : Hid (type_of% ht9) := ht9; have HB9 : Hid (type_of% b9) := b9; have HA9 : Hid (Below (w.heap.size + 1) (w.alloc (.cells #[.slice oT nT cT, .slice oI nI cI, .slice oF nF cF, .int .i64 tb, .int .i64 pg, .int .i64 mo, .slice oG nG cG, .slice oE nE cE, .int .i64 st, .slice oL nL cL, .slice oD nD cD] 30)) w9) := (by (refine Below.trans ?_ (b9.mono ?_) <;> first | exact bch | exact bcl)); have hs9 : w.heap.size + 1 ≤ w9.heap.size := box_size HA9.out; have hq9 : ¬ 9223372036854775807 < 8 + t1.size + t2.size + t3.size + t4.size + t5.size + t6.size + t7.size + t8.size + t9.size := (by omega); clear ht9 b9)
   | (go_at_call 75; (fail_if_success (have := HT10)); refine (HC10.out _ ?_).mono ?_; exact bch; rintro r w10 ⟨t10, rfl, ht10, b10⟩; have hz10 : t10.size ≤ 8000000 := Nat.le_trans (Nat.le_of_eq (size_of ht10)) HL10.out; have HT10 : Hid (type_of% ht10) := ht10; have HB10 : Hid (type_of% b10) := b10; have HA10 : Hid (Below (w.heap.size + 1) (w.alloc (.cells #[.slice oT nT cT, .slice oI nI cI, .slice oF nF cF, .int .i64 tb, .int .i64 pg, .int .i64 mo, .slice oG nG cG, .slice oE nE cE, .int .i64 st, .slice oL nL cL, .slice oD nD cD] 30)) w10) := (by (refine Below.trans ?_ (b10.mono ?_) <;> first | exact bch | exact bcl)); have hs10 : w.heap.size + 1 ≤ w10.heap.size := box_size HA10.out; have hq10 : ¬ 9223372036854775807 < 8 + t1.size + t2.size + t3.size + t4.size + t5.size + t6.size + t7.size + t8.size + t9.size + t10.size := (by omega); clear ht10 b10)
   | (go_at_call 87; (fail_if_success (have := HT11)); refine (HC11.out _ ?_).mono ?_; exact bch; rintro r w11 ⟨t11, rfl, ht11, b11⟩; have hz11 : t11.size ≤ 8000000 := Nat.le_trans (Nat.le_of_eq (size_of ht11)) HL11.out; have HT11 : Hid (type_of% ht11) := ht11; have HB11 : Hid (type_of% b11) := b11; have HA11 : Hid (Below (w.heap.size + 1) (w.alloc (.cells #[.slice oT nT cT, .slice oI nI cI, .slice oF nF cF, .int .i64 tb, .int .i64 pg, .int .i64 mo, .slice oG nG cG, .slice oE nE cE, .int .i64 st, .slice oL nL cL, .slice oD nD cD] 30)) w11) := (by (refine Below.trans ?_ (b11.mono ?_) <;> first | exact bch | exact bcl)); have hs11 : w.heap.size + 1 ≤ w11.heap.size := box_size HA11.out; have hq11 : ¬ 9223372036854775807 < 8 + t1.size + t2.size + t3.size + t4.size + t5.size + t6.size + t7.size + t8.size + t9.size + t10.size + t11.size := (by omega); clear ht11 b11))
 all_goals
  go_wp2
  go_ret
  refine ⟨_, rfl, ?_, (Below.trans ((Below.refl _ _).alloc (Nat.le_refl _) _) (HA11.out.mono (Nat.le_succ _)))⟩
  simp only [nums_append]
  rw [HT1.out, HT2.out, HT3.out, HT4.out, HT5.out, HT6.out, HT7.out, HT8.out, HT9.out, HT10.out, HT11.out]
  rfl
end Go.Proofs.YtakpkdckajjooaaGreatDoor
namespace Go.Proofs.YtakpkdckajjooaaGreatDoor
set_option linter.unusedVariables false
open Go.RowKit
theorem secT4 (d : DrV) : secT 4 d = if d.table = 0 then [] else 4 :: tName (uB 1 ++ 112 :: 0 :: uB d.table.toNat) := secT_if 4 d (d.table = 0) _ (by simp) rfl
theorem secT5 (d : DrV) : secT 5 d = if d.most = 0 then [] else 5 :: tName (uB 1 ++ 1 :: (uB d.pages.toNat ++ uB d.most.toNat)) := secT_if 5 d (d.most = 0) _ (by simp) rfl
theorem secT8 (d : DrV) : secT 8 d = if d.start = 0 then [] else 8 :: tName (uB (d.start - 1).toNat) := secT_if 8 d (d.start = 0) _ (by have := uB_pos (d.start - 1).toNat; intro h; rw [h] at this; simp at this) rfl
theorem tMod_eq (d : DrV) : tMod d = head8 ++ secT 1 d ++ secT 2 d ++ secT 3 d ++ secT 4 d ++ secT 5 d ++ secT 6 d ++ secT 7 d ++ secT 8 d ++ secT 9 d ++ secT 10 d ++ secT 11 d := by
 unfold tMod tailT
 simp [tailT]
theorem moduleText_any (m : ModD) (w0 w : World) (hm : m.ok w0) (hb : Below w0.heap.size w0 w) (hA : Amb w0) (hg : GMod m.val) :
  Calls Tryz.prog 26 #[.agg (mcA m)] w (Txt w (tMod m.val)) ∧ (tMod m.val).length ≤ 100000000 := by
 have hx : ∀ {c : Obj} {w' : World}, Below (w.heap.size + 1) (w.alloc c) w' → Below w0.heap.size w0 w' := fun b => (below_box hb hb.size b).1
 have g := (GMod_def m.val).1 hg
 obtain ⟨g1, g2, g3, g4, g5, g6, g7, g8, g9, g10, g11, _⟩ := g
 have l1 := (sec_sig w0 w m hm hb hA g1).2
 have l2 := (sec_imp w0 w m hm hb hA g2).2
 have l3 := (sec_typ w0 w m hm hb hA g3).2
 have l6 := (sec_glo w0 w m hm hb hA g6).2
 have l7 := (sec_exp w0 w m hm hb hA g7).2
 have l9 := (sec_ele w0 w m hm hb hA g9).2
 have l10 := (sec_cod w0 w m hm hb hA g10).2
 have l11 := (sec_dat w0 w m hm hb hA g11).2
 have g41 : 0 ≤ m.table := g4.1
 have g42 : m.table ≤ 16 := g4.2
 have g51 : 0 ≤ m.pages := g5.1
 have g52 : m.pages ≤ m.most := g5.2.1
 have g53 : m.most ≤ 8 := g5.2.2
 have g81 : 0 ≤ m.start := g8.1
 have g82 : m.start ≤ 4294967295 := g8.2
 have l4 : (secT 4 m.val).length ≤ 8000000 := by
  rw [secT4]
  have h1 := uB_len10 1 (by omega)
  have h2 := uB_len10 m.table.toNat (by omega)
  exact sec_len 100 (by rw [List.length_append]; show _ + ((uB m.table.toNat).length + 1 + 1) ≤ 100; omega) (by omega)
 have l5 : (secT 5 m.val).length ≤ 8000000 := by
  rw [secT5]
  have h1 := uB_len10 1 (by omega)
  have h2 := uB_len10 m.pages.toNat (by omega)
  have h3 := uB_len10 m.most.toNat (by omega)
  exact sec_len 100 (by rw [List.length_append, List.length_cons, List.length_append]; show _ + ((uB m.pages.toNat).length + (uB m.most.toNat).length + 1) ≤ 100; omega) (by omega)
 have l8 : (secT 8 m.val).length ≤ 8000000 := by
  rw [secT8]
  have h2 := uB_len10 (m.start - 1).toNat (by omega)
  exact sec_len 100 (by show (uB (m.start - 1).toNat).length ≤ 100; omega) (by omega)
 constructor
 ·rw [tMod_eq]
  exact moduleText_core w m.oT m.oI m.oF m.oG m.oE m.oL m.oD m.types.length m.imports.length m.funcs.length m.globals.length m.exports.length m.elems.length m.data.length m.cT m.cI m.cF m.cG m.cE m.cL m.cD m.table m.pages m.most m.start _ _ _ _ _ _ _ _ _ _ _
   (fun w' b => (sec_sig w0 w' m hm (hx b) hA g1).1) l1
   (fun w' b => (sec_imp w0 w' m hm (hx b) hA g2).1) l2
   (fun w' b => (sec_typ w0 w' m hm (hx b) hA g3).1) l3
   (fun w' _ => by rw [secT4]; exact tableText_any w' m.table g41 g42) l4
   (fun w' _ => by rw [secT5]; exact memoryText_any w' m.pages m.most g51 (by omega) (by omega) g53) l5
   (fun w' b => (sec_glo w0 w' m hm (hx b) hA g6).1) l6
   (fun w' b => (sec_exp w0 w' m hm (hx b) hA g7).1) l7
   (fun w' _ => by rw [secT8]; exact startText_any w' m.start g81 g82) l8
   (fun w' b => (sec_ele w0 w' m hm (hx b) hA g9).1) l9
   (fun w' b => (sec_cod w0 w' m hm (hx b) hA g10).1) l10
   (fun w' b => (sec_dat w0 w' m hm (hx b) hA g11).1) l11
 ·rw [tMod_eq]
  simp only [List.length_append]
  have : head8.length = 8 := rfl
  omega
def WOut (w : World) (m : ModD) (r : Ending) (w' : World) : Prop := Below w.heap.size w w' ∧
 ((mChk m ≠ 0 ∧ r = .returned (.tuple #[.string ⟨#[]⟩, .int .i64 (mChk m)])) ∨
  (mChk m = 0 ∧ 4096 < (tMod m.val).length ∧ r = .returned (.tuple #[.string ⟨#[]⟩, .int .i64 2])) ∨
  (mChk m = 0 ∧ (tMod m.val).length ≤ 4096 ∧ ∃ t, r = .returned (.tuple #[.string t, .int .i64 0]) ∧ nums t = tMod m.val))
theorem write_mod (m : ModD) (C : Array Value) (HCm : Hid (C = mcA m)) (w : World) (hA : Amb w) (hm : m.ok w) :
  Calls Tryz.prog 11 #[.agg C] w (WOut w m) := by
 have b1 : Below w.heap.size w (w.alloc (.cells C 30)) := (Below.refl _ _).alloc (Nat.le_refl _) _
 have hs1 : (w.alloc (.cells C 30)).heap.size = w.heap.size + 1 := by simp
 have HR : Hid ((w.alloc (.cells C 30)).heap[w.heap.size]? = some (.cells C 30 (0, 0))) := new_block _ _
 have HI30 : Hid ((Tryz.prog.info? 30).map (·.size) = some C.size) := by unfold Hid; rw [HCm.out]; exact infoMod
 have HB1 : Hid (type_of% b1) := b1
 have HCK : Hid (type_of% (check_mod m C HCm _ (hA.below b1) (hm.below b1))) := check_mod m C HCm _ (hA.below b1) (hm.below b1)
 have HM0 : Hid (mChk m = 0 ↔ GMod m.val) := mChk0 m hm
 have HMT : Hid (∀ w', Below w.heap.size w w' → GMod m.val → Calls Tryz.prog 26 #[.agg C] w' (Txt w' (tMod m.val)) ∧ (tMod m.val).length ≤ 100000000) := fun w' b hg => by
  have := moduleText_any m w w' hm b hA hg
  rw [← HCm.out] at this
  exact this
 clear hA hm b1 HCm
 obtain ⟨e, he⟩ : ∃ e, e = mChk m := ⟨_, rfl⟩
 rw [← he] at HCK HM0
 have HE : Hid (mChk m = e) := he.symm
 clear he
 by_cases h0 : e = 0
 ·subst h0
  have HG : Hid (GMod m.val) := HM0.out.1 rfl
  go_enter Tryz.func11, Tryz.ntmps11
  go_wp2_with (refine wpList_load_row rfl 30 (.tmp 1) rfl w.heap.size rfl 30 C (0, 0) _ HR.out Tryz.underlying30 rfl HI30.out ?_)
  refine HCK.out.mono ?_
  rintro r w1 ⟨rfl, b2⟩
  have HR1 : Hid (w1.heap[w.heap.size]? = some (.cells C 30 (0, 0))) := (b2.block _ (by rw [hs1]; omega)).trans HR.out
  have HB2 : Hid (Below w.heap.size w w1) := HB1.out.trans (b2.mono (by rw [hs1]; omega))
  have HT : Hid (type_of% (HMT.out w1 HB2.out HG.out)) := HMT.out w1 HB2.out HG.out
  clear b2 HCK HR HM0
  go_wp2_with (refine wpList_load_row rfl 30 (.tmp 1) rfl w.heap.size rfl 30 C (0, 0) _ HR1.out Tryz.underlying30 rfl HI30.out ?_)
  refine HT.out.1.mono ?_
  rintro r w2 ⟨t, rfl, ht, b3⟩
  have hz := size_of ht
  have hl := HT.out.2
  rw [← hz] at hl
  have HTT : Hid (nums t = tMod m.val) := ht
  have HZ : Hid (t.size = (tMod m.val).length) := hz
  have HB3 : Hid (Below w.heap.size w w2) := HB2.out.trans (b3.mono HB2.out.size)
  clear ht b3 HT hz HR1
  by_cases hbig : 4096 < t.size
  ·have hbi : (4096 : Int) < (t.size : Int) := by omega
   go_wp2
   go_ret2
   exact ⟨HB3.out, Or.inr (Or.inl ⟨HE.out, by rw [← HZ.out]; exact hbig, rfl⟩)⟩
  ·have hbi : ¬ (4096 : Int) < (t.size : Int) := by omega
   go_wp2
   go_ret2
   exact ⟨HB3.out, Or.inr (Or.inr ⟨HE.out, by rw [← HZ.out]; omega, t, rfl, HTT.out⟩)⟩
 ·have hb0 : (e == 0) = false := by rw [beq_eq_false_iff_ne]; exact h0
  have hn0 : (e != 0) = true := by rw [bne, hb0]; rfl
  have HN : Hid (e ≠ 0) := h0
  clear h0
  go_enter Tryz.func11, Tryz.ntmps11
  go_wp2_with (refine wpList_load_row rfl 30 (.tmp 1) rfl w.heap.size rfl 30 C (0, 0) _ HR.out Tryz.underlying30 rfl HI30.out ?_)
  refine HCK.out.mono ?_
  rintro r w1 ⟨rfl, b2⟩
  have HB2 : Hid (Below w.heap.size w w1) := HB1.out.trans (b2.mono (by rw [hs1]; omega))
  clear b2 HCK
  go_wp2
  go_ret2
  exact ⟨HB2.out, Or.inl ⟨by rw [HE.out]; exact HN.out, by rw [HE.out]; rfl⟩⟩
end Go.Proofs.YtakpkdckajjooaaGreatDoor
