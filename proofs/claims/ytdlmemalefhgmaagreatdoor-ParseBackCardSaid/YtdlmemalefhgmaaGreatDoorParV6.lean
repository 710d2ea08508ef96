/-
  Walks: values' texts, read: lists and records.
  Conditions: the reader lies as 'RD' says; its words are at most 65536.
  Walks: values' texts, read: records.
  Conditions: the reader lies as 'RD' says; its words are at most 65536.
  Walks: values' texts, read: a value.
  Conditions: the reader lies as 'RD' says; its words are at most 65536.
-/
import Derived.Test.YtdlmemalefhgmaaGreatDoorParV3
import Derived.Deep.RegionLaw
namespace Go.Proofs.YtdlmemalefhgmaaGreatDoor
set_option linter.unusedVariables false
set_option linter.unusedSimpArgs false
open Go.RowKit G

theorem set8_3 {w : World} {g : Nat} {ty : TypeId} {a0 a1 a2 a3 a4 a5 a6 a7 : Value} (h : w.heap[g]? = some (.cells #[a0, a1, a2, a3, a4, a5, a6, a7] ty (0, 0))) (v : Value) : (w.setCell ⟨g, 3, none⟩ v).heap[g]? = some (.cells #[a0, a1, a2, v, a4, a5, a6, a7] ty (0, 0)) := by
  have h := set_row h 3 v
  simpa only [List.setIfInBounds_toArray, List.set_cons_zero, List.set_cons_succ] using h
theorem set8_4 {w : World} {g : Nat} {ty : TypeId} {a0 a1 a2 a3 a4 a5 a6 a7 : Value} (h : w.heap[g]? = some (.cells #[a0, a1, a2, a3, a4, a5, a6, a7] ty (0, 0))) (v : Value) : (w.setCell ⟨g, 4, none⟩ v).heap[g]? = some (.cells #[a0, a1, a2, a3, v, a5, a6, a7] ty (0, 0)) := by
  have h := set_row h 4 v
  simpa only [List.setIfInBounds_toArray, List.set_cons_zero, List.set_cons_succ] using h
theorem blk8 {b : Nat} {w : World} {x0 x1 x2 x3 x4 x5 x6 x7 : Value} {ty : TypeId} (h : w.heap[b]? = some (.cells #[x0, x1, x2, x3, x4, x5, x6, x7] ty (0, 0))) : (w.cell? ⟨b, 0, none⟩ = some x0 ∧ w.cell? ⟨b, 1, none⟩ = some x1 ∧ w.cell? ⟨b, 2, none⟩ = some x2 ∧ w.cell? ⟨b, 3, none⟩ = some x3 ∧ w.cell? ⟨b, 4, none⟩ = some x4 ∧ w.cell? ⟨b, 5, none⟩ = some x5 ∧ w.cell? ⟨b, 6, none⟩ = some x6 ∧ w.cell? ⟨b, 7, none⟩ = some x7) ∧ (w.frozen? ⟨b, 0, none⟩ = false ∧ w.frozen? ⟨b, 1, none⟩ = false ∧ w.frozen? ⟨b, 2, none⟩ = false ∧ w.frozen? ⟨b, 3, none⟩ = false ∧ w.frozen? ⟨b, 4, none⟩ = false ∧ w.frozen? ⟨b, 5, none⟩ = false ∧ w.frozen? ⟨b, 6, none⟩ = false ∧ w.frozen? ⟨b, 7, none⟩ = false) :=
  ⟨⟨(by rw [Lib.cell_of_heap h]; rfl), (by rw [Lib.cell_of_heap h]; rfl), (by rw [Lib.cell_of_heap h]; rfl), (by rw [Lib.cell_of_heap h]; rfl), (by rw [Lib.cell_of_heap h]; rfl), (by rw [Lib.cell_of_heap h]; rfl), (by rw [Lib.cell_of_heap h]; rfl), (by rw [Lib.cell_of_heap h]; rfl)⟩, ⟨Lib.frozen_of_heap h 0, Lib.frozen_of_heap h 1, Lib.frozen_of_heap h 2, Lib.frozen_of_heap h 3, Lib.frozen_of_heap h 4, Lib.frozen_of_heap h 5, Lib.frozen_of_heap h 6, Lib.frozen_of_heap h 7⟩⟩
def ShF (vs : List Value) : Prop := ∃ (fs : ByteArray) (y0 : Int) (y1 : Int) (y2 : ByteArray) (y3 : Option Addr) (y3l y3q : Nat) (y4 : Option Addr) (y4l y4q : Nat) (y5 : Int) (y6 : ByteArray) (y7 : Bool), vs = [.string fs, .int .u8 y0, .int .i64 y1, .string y2, .slice y3 y3l y3q, .slice y4 y4l y4q, .int .u8 y5, .string y6, .bool y7]
theorem shF_one {vs : List Value} (h : ShF vs) : (∀ u ∈ vs, u.oneCell' = true) ∧ vs.length = 9 := by
  obtain ⟨fs, y0, y1, y2, y3, y3l, y3q, y4, y4l, y4q, y5, y6, y7, rfl⟩ := h
  refine ⟨fun u hu => ?_, rfl⟩
  simp at hu
  rcases hu with rfl | rfl | rfl | rfl | rfl | rfl | rfl | rfl | rfl <;> rfl
theorem infV : (Tryz.prog.info? 50).map (fun i => (i.zero, i.size, i.bytes)) = some (some (.agg #[.int .u8 0, .int .i64 0, .string ⟨#[]⟩, .slice none 0 0, .slice none 0 0, .int .u8 0, .string ⟨#[]⟩, .bool false]), 8, 112) := by kernel_rfl
theorem infF : (Tryz.prog.info? 70).map (fun i => (i.zero, i.size, i.bytes)) = some (some (.agg #[.string ⟨#[]⟩, .int .u8 0, .int .i64 0, .string ⟨#[]⟩, .slice none 0 0, .slice none 0 0, .int .u8 0, .string ⟨#[]⟩, .bool false]), 9, 128) := by kernel_rfl
theorem TD.tk {W1 : World} {r : Str} {k : Nat} {W : World} (h : TD W1 r k W) : tk W1 W = k := by
  unfold Go.Proofs.YtdlmemalefhgmaaGreatDoor.tk
  rw [h.cells.1.2]
  simp
/-- As PostV, and how much is left. -/
def PostV2 {α : Type} (W1 : World) (W : World) (F : α → Value → World → Prop) (k0 : Nat) (r : Option (α × Str × Nat)) (e : Ending) (W' : World) : Prop :=
  match r with
  | none => e = .panicked [pz] ∧ Gr W1 W W'
  | some (x, r', k') => ∃ v, e = .returned v ∧ F x v W' ∧ TD W1 r' k' W' ∧ Gr W1 W W' ∧ Asc r' ∧ r'.length ≤ 140737488355328 ∧ k0 ≤ k' ∧ k' ≤ 4096
theorem PostV2.of_none {α : Type} {W1 W : World} {F : α → Value → World → Prop} {k0 : Nat} {r : Option (α × Str × Nat)} {e : Ending} {w' : World} (h : PostV2 W1 W F k0 r e w') (hr : r = none) : e = .panicked [pz] ∧ Gr W1 W w' := by subst hr; exact h
theorem PostV2.of_some {α : Type} {W1 W : World} {F : α → Value → World → Prop} {k0 : Nat} {r : Option (α × Str × Nat)} {x : α} {r' : Str} {k' : Nat} {e : Ending} {w' : World} (h : PostV2 W1 W F k0 r e w') (hr : r = some (x, r', k')) : ∃ v, e = .returned v ∧ F x v w' ∧ TD W1 r' k' w' ∧ Gr W1 W w' ∧ Asc r' ∧ r'.length ≤ 140737488355328 ∧ k0 ≤ k' ∧ k' ≤ 4096 := by subst hr; exact h
theorem wordV_left {r : Str} {w : LX.LW} {r' : Str} (h : wordV r = some (w, r')) : r' = r.drop (firstN r) := by
  unfold wordV at h
  split at h
  · injection h with h; injection h with h1 h2; exact h2.symm
  · cases h
abbrev Vr := Option (List T × Str × Nat)
def listV (val : Str → Nat → Vr) : Nat → Str → Nat → Option (List (List T) × Str × Nat)
  | 0, _, _ => none
  | m + 1, r, k => if Lib.hasPrefix r [93] = true then some ([], Lib.trimPrefix r [93], k) else match val (Lib.trimPrefix (Lib.trimPrefix r [93]) [32]) k with
    | none => none
    | some (x, r', k') => (listV val m r' k').map fun p => (x :: p.1, p.2)
def recV (val : Str → Nat → Vr) : Nat → Str → Nat → Option (List (List T) × Str × Nat)
  | 0, _, _ => none
  | m + 1, r, k => if Lib.hasPrefix r [125] = true then some ([], Lib.trimPrefix r [125], k) else match wordV (Lib.trimPrefix (Lib.trimPrefix r [125]) [32]) with
    | none => none
    | some (w, r2) => match val (Lib.trimPrefix r2 [32]) k with
      | none => none
      | some (x, r', k') => (recV val m r' k').map fun p => ((.sc (str w.s) :: x) :: p.1, p.2)
theorem frows_putV {Sh : List Value → Prop} {ty : TypeId} {k g : Nat} {l : List (List T)} {v : Value} {W W' : World} (p : Put g W W') (h : FRows Sh ty k (g + 1) l v W) : FRows Sh ty k (g + 1) l v W' := frows_put p h
set_option maxRecDepth 100000 in
set_option maxHeartbeats 16000000 in
theorem list_v {W1 : World} {r : Str} {k : Nat} {W : World} (h : TD W1 r k W) (ha : Asc r) (hl : r.length ≤ 140737488355328) (hk : k ≤ 4096) (htab : LTabs W1) (deep : Nat) (hdp : deep ≤ 64) {vm : Str → Nat → Vr}
    (hv : ∀ r' k' W', TD W1 r' k' W' → Asc r' → r'.length ≤ 140737488355328 → k ≤ k' → k' ≤ 4096 → Calls Tryz.prog 41 #[rp W1, .int .i64 ((deep : Int) + 1)] W' (PostV2 W1 W' (FT ShV W'.heap.size) (k' + 1) (vm r' k'))) (m : Nat) (hm : 4096 < m + k) :
    Calls Tryz.prog 62 #[rp W1, .int .i64 deep] W (PostV2 W1 W (FT ShV W.heap.size) k (((listV vm m r k).map fun p => (vCols 4 0 [] p.1 [], p.2)))) := by
  have hlt := h.lt
  obtain ⟨Wz, hWz⟩ : ∃ Wz, W.alloc (.cells #[.int .u8 0, .int .i64 0, .string ⟨#[]⟩, .slice none 0 0, .slice none 0 0, .int .u8 0, .string ⟨#[]⟩, .bool false] 50) = Wz := ⟨_, rfl⟩
  have hrz : TD W1 r k Wz := by rw [← hWz]; exact h.alloc _
  have hgz : Gr W1 W Wz := by rw [← hWz]; exact (gr_refl W1 W).alloc _
  have hzz : Wz.heap.size = W.heap.size + 1 := by rw [← hWz]; simp
  have HKZ : Hid (Wz.heap[W.heap.size]? = some (.cells #[.int .u8 0, .int .i64 0, .string ⟨#[]⟩, .slice none 0 0, .slice none 0 0, .int .u8 0, .string ⟨#[]⟩, .bool false] 50 (0, 0))) := Lib.hid (by rw [← hWz]; exact heap_alloc_new _ _)
  have HIS := Lib.hid (fun r k W (h : TD W1 r k W) (p : ByteArray) => is_v h p)
  have HWD := Lib.hid (fun r k W (h : TD W1 r k W) (ha : Asc r) (hl : r.length ≤ 140737488355328) => word_v h ha hl htab)
  have HV := Lib.hid hv
  have hwr : IntKind.i64.wrap ((deep : Int) + 1) = (deep : Int) + 1 := IntWalk.i64_in _ (by omega)
  obtain ⟨rs, hrs⟩ : ∃ rs, ((listV vm m r k).map fun p => (vCols 4 0 [] p.1 [], p.2)) = rs := ⟨_, rfl⟩
  rw [hrs]
  obtain ⟨post, hpost⟩ : ∃ p, PostV2 W1 W (FT ShV W.heap.size) k rs = p := ⟨_, rfl⟩
  rw [hpost]
  have HB : Hid (∀ w', rs = none → Gr W1 W w' → post (.panicked [pz]) w') := Lib.hid fun w' h1 h2 => by rw [← hpost, h1]; exact ⟨rfl, h2⟩
  have HO : Hid (∀ x r' k' v w', rs = some (x, r', k') → (FT ShV W.heap.size) x v w' → TD W1 r' k' w' → Gr W1 W w' → Asc r' → r'.length ≤ 140737488355328 → k ≤ k' → k' ≤ 4096 → post (.returned v) w') := Lib.hid fun x r' k' v w' h1 h2 h3 h4 h5 h6 h7 h8 => by rw [← hpost, h1]; exact ⟨_, rfl, h2, h3, h4, h5, h6, h7, h8⟩
  have HRS := Lib.hid hrs
  have HA0 := Lib.hid ha
  obtain ⟨cb, hcb⟩ : ∃ cb, Wz.heap.size = cb := ⟨_, rfl⟩
  have hcb1 : W.heap.size < cb := by omega
  clear hpost h hrs hv ha hzz
  go_enter Tryz.func62, Tryz.ntmps62
  go_wp2
  obtain ⟨W0, hW0⟩ : ∃ W0, Wz.alloc (.cells #[.int .u8 4, .int .i64 0, .string ⟨#[]⟩, .slice none 0 0, .slice none 0 0, .int .u8 0, .string ⟨#[]⟩, .bool false] 50) = W0 := ⟨_, rfl⟩
  try rw [hW0]
  have HR0 : Hid (TD W1 r k W0) := Lib.hid (by rw [← hW0]; exact hrz.alloc _)
  have hgs : Gr W1 Wz W0 := by rw [← hW0]; exact (gr_refl W1 Wz).alloc _
  have hcb2 : cb < W0.heap.size := by rw [← hW0, ← hcb]; simp
  have HK1 : Hid (W0.heap[cb]? = some (.cells #[.int .u8 4, .int .i64 0, .string ⟨#[]⟩, .slice none 0 0, .slice none 0 0, .int .u8 0, .string ⟨#[]⟩, .bool false] 50 (0, 0))) := Lib.hid (by rw [← hW0, ← hcb]; exact heap_alloc_new _ _)
  have hcbz := Nat.le_of_eq hcb
  clear hW0 hWz hrz hcb
  go_loopw [] (fun wr => ∃ (acc : List (List T)) (r1 : Str) (k1 m1 : Nat) (lv : Value), wr.heap[cb]? = some (.cells #[.int .u8 4, .int .i64 0, .string ⟨#[]⟩, lv, .slice none 0 0, .int .u8 0, .string ⟨#[]⟩, .bool false] 50 (0, 0)) ∧ FRows ShV 50 8 (cb + 1) acc lv wr ∧ TD W1 r1 k1 wr ∧ Gr W1 Wz wr ∧ Asc r1 ∧ r1.length ≤ 140737488355328 ∧ k ≤ k1 ∧ k1 ≤ 4096 ∧ acc.length ≤ k1 ∧ 4096 < m1 + k1 ∧ ((listV vm m1 r1 k1).map fun p => (vCols 4 0 [] (acc ++ p.1) [], p.2)) = rs) (fun wr => 4097 - tk W1 wr)
  case atStart =>
    refine ⟨[], r, k, m, _, HK1.out, FRows.nil _ _ _ _ _, HR0.out, hgs, HA0.out, hl, Nat.le_refl _, hk, Nat.zero_le _, hm, ?_⟩
    rw [← HRS.out]
    rfl
  case round =>
    obtain ⟨acc, r1, k1, m1, lv, hbe, hf, ht, hg, ha1, hl1, hk1, hk2, hac, hm1, hrs⟩ := hrel
    obtain ⟨al, cl, rfl, hcl, hcm⟩ := hf.shape
    obtain ⟨m2, rfl⟩ : ∃ m2, m1 = m2 + 1 := ⟨m1 - 1, by omega⟩
    have HRR := Lib.hid hrs
    have HF := Lib.hid hf
    have HBE := Lib.hid hbe
    have HTK := Lib.hid ht.tk
    have hWs := hg.size
    have hcs : cb < wr.heap.size := tr_lt_of_block hbe
    have hcbR : W1.heap.size < cb := by omega
    clear hrs hf hbe
    cases hp : Lib.hasPrefix r1 [93] with
    | true =>
      go_wp2_with (first
        | (go_at_call 61; (with_reducible refine (HIS.out _ _ _ ht _).mono ?_); rintro e2 w2 ⟨rfl, ht2, hk2g⟩; rw [show Lib.hasPrefix r1 (⟨#[93]⟩ : ByteArray).data.toList = true from hp])
        | (refine wpList_load_row rfl 50 _ rfl cb rfl 50 #[.int .u8 4, .int .i64 0, .string ⟨#[]⟩, .slice al acc.length cl, .slice none 0 0, .int .u8 0, .string ⟨#[]⟩, .bool false] (0, 0) _ (gr_block hk2g hcbR HBE.out) Tryz.underlying50 rfl iszV ?_)
        | (refine wpList_store_row rfl 50 _ _ rfl W.heap.size _ rfl rfl 50 #[.int .u8 0, .int .i64 0, .string ⟨#[]⟩, .slice none 0 0, .slice none 0 0, .int .u8 0, .string ⟨#[]⟩, .bool false] (gr_block (hg.trans hk2g) hlt HKZ.out) iszV rfl (all_one (shV_one (by exact ⟨_, _, _, _, _, _, _, _, _, _, _, _, rfl⟩)).1) ?_))
      have hs2 := hk2g.size
      refine bodyPost_ret (results_cell_row Tryz.results62 _ _ W.heap.size 50 _ (0, 0) _ rfl (setRow_heap _ _ _ _ _ _ (gr_block (hg.trans hk2g) hlt HKZ.out)) Tryz.underlying50 rfl iszV) rfl ?_
      refine HO.out (vCols 4 0 [] acc []) (Lib.trimPrefix r1 [93]) k1 _ _ (by rw [← HRR.out]; simp [listV, hp]) ⟨_, rfl, ⟨_, _, _, _, _, _, _, _, _, _, _, _, rfl⟩, ?_⟩ (ht2.put (put_row _ _ _) hlt) ((put_row _ _ _).gr ((hgz.trans hg).trans hk2g) (Nat.le_refl _)) (ha1.trim _) (Nat.le_trans (trim_len _ _) hl1) hk1 hk2
      have hrep : ∀ w7, (∀ b, cb + 1 ≤ b → w7.heap[b]? = w2.heap[b]?) → w2.heap.size ≤ w7.heap.size → (ofRows 8 acc).Rep w7 (W.heap.size ≤ ·) (.slice al acc.length cl) := fun w7 h7 hs7 =>
        (HF.out.gr hk2g (by omega)).rep.keep hs7 (fun b _ h => by omega) (fun b h1 h2 => h7 b h1)
      exact row_one _ (row_one _ (row_one _ (row_rows (hrep _ (fun b hb => setRow_other _ _ _ _ (by omega)) (by simp [World.setRow])) (row_rows (rep_nil 9) (row_one _ (row_one _ (row_one _ .nil)))))))
    | false =>
      go_upto_region 4 with (go_at_call 61; first
        | ((with_reducible refine (HIS.out _ _ _ ht2 _).mono ?_); rintro e3 w3 ⟨rfl, ht3, hg3⟩)
        | ((with_reducible refine (HIS.out _ _ _ ht _).mono ?_); rintro e2 w2 ⟨rfl, ht2, hg2⟩; rw [show Lib.hasPrefix r1 (⟨#[93]⟩ : ByteArray).data.toList = false from hp]))
      have htr : TD W1 (Lib.trimPrefix (Lib.trimPrefix r1 [93]) [32]) k1 w3 := ht3
      have hgr : Gr W1 wr w3 := hg2.trans hg3
      have har : Asc (Lib.trimPrefix (Lib.trimPrefix r1 [93]) [32]) := (ha1.trim _).trim _
      have hlr : (Lib.trimPrefix (Lib.trimPrefix r1 [93]) [32]).length ≤ 140737488355328 := Nat.le_trans (trim_len _ _) (Nat.le_trans (trim_len _ _) hl1)
      obtain ⟨rr, hrr⟩ : ∃ rr, Lib.trimPrefix (Lib.trimPrefix r1 [93]) [32] = rr := ⟨_, rfl⟩
      have hgn := hgr
      rw [hrr] at htr har hlr
      clear ht2 ht3
      have hWR := hgr.size
      cases hpv : vm rr k1 with
      | none =>
        refine wp_region_held_drew (S := fun w' => w'.cell? ⟨cb, 3, none⟩ = some (.slice al acc.length cl)) (by kernel_rfl) ((blk8 (gr_block hgr.drew hcbR HBE.out)).1.2.2.2.1) (fun hH => ?_)
        refine wpAnyH_take (i := 0) (oi := { dst := some 12, op := Go.Op.fieldAddr 50 (Go.Operand.tmp 5) 3, type := 0, pos := "told.go:42", after := #[], guard := none }) (v := ?_) rfl (by kernel_rfl) (by kernel_rfl) (by kernel_rfl) (fun _ _ _ h => h) (Or.inl ⟨by rfl, ?_⟩) hH ?_; rotate_left; (focus (intro wS hSw; (try dsimp only at hSw); go_simp; (try with_reducible rfl))); simp only [Act.put, List.setIfInBounds_toArray, List.set_cons_zero, List.set_cons_succ]
        refine wpAnyH_take (i := 1) (oi := { dst := some 13, op := Go.Op.load 47 (Go.Operand.tmp 12), type := 47, pos := "told.go:42", after := #[{ on := 0, ground := Go.Ground.data }], guard := none }) (v := ?_) rfl (by kernel_rfl) (by kernel_rfl) (by kernel_rfl) (fun _ _ _ h => h) (Or.inl ⟨by rfl, ?_⟩) hH ?_; rotate_left; (focus (intro wS hSw; (try dsimp only at hSw); go_simp; (try with_reducible rfl))); simp only [Act.put, List.setIfInBounds_toArray, List.set_cons_zero, List.set_cons_succ]
        refine wpAnyH_take (i := 2) (oi := { dst := some 14, op := Go.Op.move (Go.Operand.tmp 0), type := 105, pos := "told.go:42", after := #[], guard := none }) (v := ?_) rfl (by kernel_rfl) (by kernel_rfl) (by kernel_rfl) (fun _ _ _ h => h) (Or.inl ⟨by rfl, ?_⟩) hH ?_; rotate_left; (focus (intro wS hSw; (try dsimp only at hSw); go_simp; (try with_reducible rfl))); simp only [Act.put, List.setIfInBounds_toArray, List.set_cons_zero, List.set_cons_succ]
        refine wpAnyH_take (i := 3) (oi := { dst := some 15, op := Go.Op.move (Go.Operand.tmp 1), type := 3, pos := "told.go:42", after := #[], guard := none }) (v := ?_) rfl (by kernel_rfl) (by kernel_rfl) (by kernel_rfl) (fun _ _ _ h => h) (Or.inl ⟨by rfl, ?_⟩) hH ?_; rotate_left; (focus (intro wS hSw; (try dsimp only at hSw); go_simp; (try with_reducible rfl))); simp only [Act.put, List.setIfInBounds_toArray, List.set_cons_zero, List.set_cons_succ]
        refine wpAnyH_take (i := 4) (oi := { dst := some 16, op := Go.Op.binOp Go.BinOp.add 3 (Go.Operand.tmp 15) (Go.Operand.const (Go.Value.int Go.IntKind.i64 1)) 3, type := 3, pos := "told.go:42", after := #[{ on := 3, ground := Go.Ground.data }], guard := none }) (v := ?_) rfl (by kernel_rfl) (by kernel_rfl) (by kernel_rfl) (fun _ _ _ h => h) (Or.inl ⟨by rfl, ?_⟩) hH ?_; rotate_left; (focus (intro wS hSw; (try dsimp only at hSw); go_simp; (try with_reducible rfl))); simp only [Act.put, List.setIfInBounds_toArray, List.set_cons_zero, List.set_cons_succ]
        refine wpAnyH_ready (rs := [5]) (by kernel_rfl) (by simp) ?_
        refine AllReadyH.cons (o := { dst := some 17, op := Go.Op.call { callee := Go.Callee.value (Go.Operand.func 41), args := #[Go.Operand.tmp 14, Go.Operand.tmp 16], argTypes := #[105, 3] }, type := 50, pos := "told.go:42", after := #[{ on := 2, ground := Go.Ground.data }, { on := 4, ground := Go.Ground.data }], guard := none }) rfl (fun K hK => ?_) AllReadyH.nil
        go_simp
        go_at_call 41
        with_reducible refine (HV.out rr k1 _ htr.drew har hlr hk1 hk2).mono ?_
        intro e9 w9 hq9
        obtain ⟨rfl, hk9⟩ := PostV2.of_none hq9 hpv
        exact ⟨rfl, HB.out _ (by rw [← HRR.out]; simp [listV, hp, hrr, hpv]) (((hgz.trans hg).trans hgr.drew).trans hk9)⟩
      | some p9 =>
        obtain ⟨x9, r9, k9⟩ := p9
        have c2w := (blk8 (gr_block hgr hcbR HBE.out)).1.2.2.2.1
        have c2d := (blk8 (gr_block hgr.drew hcbR HBE.out)).1.2.2.2.1
        go_region_law (first
          | (refine append_RL (ts := x9) Tryz.underlying47 infV rfl (by decide) (by decide) HF9.out hsz9.out (by omega) (by first | (rw [← hrow9.length]; rfl) | (rw [List.length_cons, ← hrow9.length]; rfl)) HRW9.out ⟨_, _, _, _, _, _, _, _, _, _, _, _, rfl⟩ (shV_one ⟨_, _, _, _, _, _, _, _, _, _, _, _, rfl⟩).1 rfl _ _ (by rfl) (by rfl) (by rfl) ?_; intro v10 w10 hf10 hg10 ho10; obtain ⟨a10, n10, c10, rfl⟩ := hf10.slice3; have HX10 := Lib.hid (HX9.out _ hg10); obtain ⟨⟨p0, p1, p2, p3, p4, -⟩, ⟨q0, q1, q2, q3, q4, -⟩⟩ := blk8 HX10.out)
          | (go_simp; go_wp2_with (go_at_call 41; (with_reducible refine (HV.out rr k1 _ htr.drew har hlr hk1 hk2).mono ?_); intro e9 w9 hq9; obtain ⟨v9, rfl, ⟨vs9, rfl, ⟨y0, y1, y2, y3, y3l, y3q, y4, y4l, y4q, y5, y6, y7, rfl⟩, hrow9⟩, ht9, hk9, ha9, hl9, hkk9, hkm9⟩ := PostV2.of_some hq9 hpv; have HK9 := Lib.hid (hgr.drew.trans hk9); have hsz9 := Lib.hid (show cb + 1 ≤ w9.heap.size by have : wr.heap.size ≤ w9.heap.size := HK9.out.size; omega); have HF9 := Lib.hid (HF.out.gr HK9.out (by omega)); have HRW9 := Lib.hid (hrow9.keep (ok' := fun b => cb + 1 ≤ b ∧ some b ≠ (Value.slice al acc.length cl).ownBlock) (Nat.le_refl _) (fun b h1 h2 => by have h3 : w3.heap.size ≤ b := h2; have h4 := hgr.size; exact ⟨by omega, fun e => by have := HF.out.own e.symm; omega⟩) (fun _ _ _ => rfl)); have HX9 : Hid (∀ w10, w9.grownBy w10 (Value.slice al acc.length cl).ownBlock → w10.heap[cb]? = some (.cells #[.int .u8 4, .int .i64 0, .string ⟨#[]⟩, .slice al acc.length cl, .slice none 0 0, .int .u8 0, .string ⟨#[]⟩, .bool false] 50 (0, 0))) := Lib.hid (fun w10 hg => by rw [hg.block _ (by have := hsz9.out; omega) (fun e => by have := HF.out.own e.symm; omega)]; exact gr_block HK9.out hcbR HBE.out); have c29 := (blk8 (gr_block HK9.out hcbR HBE.out)).1.2.2.2.1; have c29a := fun O => (blk8 (gr_block (HK9.out.alloc O) hcbR HBE.out)).1.2.2.2.1)))
        all_goals (
          obtain ⟨W11, hW11⟩ : ∃ W11, w10.setCell ⟨cb, 3, none⟩ (.slice a10 n10 c10) = W11 := ⟨_, rfl⟩
          have hput : Put cb w10 W11 := by rw [← hW11]; exact (Put.refl _ _).set _ _
          have HC11 : Hid (W11.heap[cb]? = some (.cells #[.int .u8 4, .int .i64 0, .string ⟨#[]⟩, .slice a10 n10 c10, .slice none 0 0, .int .u8 0, .string ⟨#[]⟩, .bool false] 50 (0, 0))) := Lib.hid (by rw [← hW11]; exact set8_3 HX10.out _)
          have hown : ∀ g, (Value.slice al acc.length cl).ownBlock = some g → cb + 1 ≤ g ∧ g < wr.heap.size := fun g e => HF.out.own e
          have ht11 : TD W1 r9 k9 W11 := (ht9.row hg10 (fun g e => by have := hown g e; omega)).put hput hcbR
          have hg11 : Gr W1 Wz W11 := hput.gr ((hg.trans HK9.out).row hg10 (fun g e => by have := hown g e; omega)) (by omega)
          have hf11 : FRows ShV 50 8 (cb + 1) (acc ++ [x9]) (.slice a10 n10 c10) W11 := frows_put hput hf10
          try rw [hW11]
          clear hW11 p0 p1 p2 p3 p4 q0 q1 q2 q3 q4 c2w c2d c29 c29a
          have HR11 := Lib.hid hf11
          clear hf10 hf11
          go_wp2_with fail
          go_roundw
          case rel =>
            refine ⟨acc ++ [x9], r9, k9, m2, _, HC11.out, HR11.out, ht11, hg11, ha9, hl9, by omega, hkm9, by rw [List.length_append]; simp; omega, by omega, ?_⟩
            rw [← HRR.out]
            simp only [listV, hp, hrr, Bool.false_eq_true, if_false, hpv]
            cases listV vm m2 r9 k9 with
            | none => rfl
            | some p => simp only [Option.map_some]; rw [List.append_assoc]; rfl
          case measure =>
            have e4 := ht11.tk
            have e1 := HTK.out
            omega
          )
end Go.Proofs.YtdlmemalefhgmaaGreatDoor
namespace Go.Proofs.YtdlmemalefhgmaaGreatDoor
set_option linter.unusedVariables false
set_option linter.unusedSimpArgs false
open Go.RowKit G

set_option maxRecDepth 100000 in
set_option maxHeartbeats 16000000 in
theorem rec_v {W1 : World} {r : Str} {k : Nat} {W : World} (h : TD W1 r k W) (ha : Asc r) (hl : r.length ≤ 140737488355328) (hk : k ≤ 4096) (htab : LTabs W1) (deep : Nat) (hdp : deep ≤ 64) {vm : Str → Nat → Vr}
    (hv : ∀ r' k' W', TD W1 r' k' W' → Asc r' → r'.length ≤ 140737488355328 → k ≤ k' → k' ≤ 4096 → Calls Tryz.prog 41 #[rp W1, .int .i64 ((deep : Int) + 1)] W' (PostV2 W1 W' (FT ShV W'.heap.size) (k' + 1) (vm r' k'))) (m : Nat) (hm : 4096 < m + k) :
    Calls Tryz.prog 63 #[rp W1, .int .i64 deep] W (PostV2 W1 W (FT ShV W.heap.size) k (((recV vm m r k).map fun p => (vCols 5 0 [] [] p.1, p.2)))) := by
  have hlt := h.lt
  obtain ⟨Wz, hWz⟩ : ∃ Wz, W.alloc (.cells #[.int .u8 0, .int .i64 0, .string ⟨#[]⟩, .slice none 0 0, .slice none 0 0, .int .u8 0, .string ⟨#[]⟩, .bool false] 50) = Wz := ⟨_, rfl⟩
  have hrz : TD W1 r k Wz := by rw [← hWz]; exact h.alloc _
  have hgz : Gr W1 W Wz := by rw [← hWz]; exact (gr_refl W1 W).alloc _
  have hzz : Wz.heap.size = W.heap.size + 1 := by rw [← hWz]; simp
  have HKZ : Hid (Wz.heap[W.heap.size]? = some (.cells #[.int .u8 0, .int .i64 0, .string ⟨#[]⟩, .slice none 0 0, .slice none 0 0, .int .u8 0, .string ⟨#[]⟩, .bool false] 50 (0, 0))) := Lib.hid (by rw [← hWz]; exact heap_alloc_new _ _)
  have HIS := Lib.hid (fun r k W (h : TD W1 r k W) (p : ByteArray) => is_v h p)
  have HWD := Lib.hid (fun r k W (h : TD W1 r k W) (ha : Asc r) (hl : r.length ≤ 140737488355328) => word_v h ha hl htab)
  have HV := Lib.hid hv
  have hwr : IntKind.i64.wrap ((deep : Int) + 1) = (deep : Int) + 1 := IntWalk.i64_in _ (by omega)
  obtain ⟨rs, hrs⟩ : ∃ rs, ((recV vm m r k).map fun p => (vCols 5 0 [] [] p.1, p.2)) = rs := ⟨_, rfl⟩
  rw [hrs]
  obtain ⟨post, hpost⟩ : ∃ p, PostV2 W1 W (FT ShV W.heap.size) k rs = p := ⟨_, rfl⟩
  rw [hpost]
  have HB : Hid (∀ w', rs = none → Gr W1 W w' → post (.panicked [pz]) w') := Lib.hid fun w' h1 h2 => by rw [← hpost, h1]; exact ⟨rfl, h2⟩
  have HO : Hid (∀ x r' k' v w', rs = some (x, r', k') → (FT ShV W.heap.size) x v w' → TD W1 r' k' w' → Gr W1 W w' → Asc r' → r'.length ≤ 140737488355328 → k ≤ k' → k' ≤ 4096 → post (.returned v) w') := Lib.hid fun x r' k' v w' h1 h2 h3 h4 h5 h6 h7 h8 => by rw [← hpost, h1]; exact ⟨_, rfl, h2, h3, h4, h5, h6, h7, h8⟩
  have HRS := Lib.hid hrs
  have HA0 := Lib.hid ha
  obtain ⟨cb, hcb⟩ : ∃ cb, Wz.heap.size = cb := ⟨_, rfl⟩
  have hcb1 : W.heap.size < cb := by omega
  clear hpost h hrs hv ha hzz
  go_enter Tryz.func63, Tryz.ntmps63
  go_wp2
  obtain ⟨W0, hW0⟩ : ∃ W0, Wz.alloc (.cells #[.int .u8 5, .int .i64 0, .string ⟨#[]⟩, .slice none 0 0, .slice none 0 0, .int .u8 0, .string ⟨#[]⟩, .bool false] 50) = W0 := ⟨_, rfl⟩
  try rw [hW0]
  have HR0 : Hid (TD W1 r k W0) := Lib.hid (by rw [← hW0]; exact hrz.alloc _)
  have hgs : Gr W1 Wz W0 := by rw [← hW0]; exact (gr_refl W1 Wz).alloc _
  have hcb2 : cb < W0.heap.size := by rw [← hW0, ← hcb]; simp
  have HK1 : Hid (W0.heap[cb]? = some (.cells #[.int .u8 5, .int .i64 0, .string ⟨#[]⟩, .slice none 0 0, .slice none 0 0, .int .u8 0, .string ⟨#[]⟩, .bool false] 50 (0, 0))) := Lib.hid (by rw [← hW0, ← hcb]; exact heap_alloc_new _ _)
  have hcbz := Nat.le_of_eq hcb
  clear hW0 hWz hrz hcb
  go_loopw [] (fun wr => ∃ (acc : List (List T)) (r1 : Str) (k1 m1 : Nat) (lv : Value), wr.heap[cb]? = some (.cells #[.int .u8 5, .int .i64 0, .string ⟨#[]⟩, .slice none 0 0, lv, .int .u8 0, .string ⟨#[]⟩, .bool false] 50 (0, 0)) ∧ FRows ShF 70 9 (cb + 1) acc lv wr ∧ TD W1 r1 k1 wr ∧ Gr W1 Wz wr ∧ Asc r1 ∧ r1.length ≤ 140737488355328 ∧ k ≤ k1 ∧ k1 ≤ 4096 ∧ acc.length ≤ k1 ∧ 4096 < m1 + k1 ∧ ((recV vm m1 r1 k1).map fun p => (vCols 5 0 [] [] (acc ++ p.1), p.2)) = rs) (fun wr => 4097 - tk W1 wr)
  case atStart =>
    refine ⟨[], r, k, m, _, HK1.out, FRows.nil _ _ _ _ _, HR0.out, hgs, HA0.out, hl, Nat.le_refl _, hk, Nat.zero_le _, hm, ?_⟩
    rw [← HRS.out]
    rfl
  case round =>
    obtain ⟨acc, r1, k1, m1, lv, hbe, hf, ht, hg, ha1, hl1, hk1, hk2, hac, hm1, hrs⟩ := hrel
    obtain ⟨al, cl, rfl, hcl, hcm⟩ := hf.shape
    obtain ⟨m2, rfl⟩ : ∃ m2, m1 = m2 + 1 := ⟨m1 - 1, by omega⟩
    have HRR := Lib.hid hrs
    have HF := Lib.hid hf
    have HBE := Lib.hid hbe
    have HTK := Lib.hid ht.tk
    have hWs := hg.size
    have hcs : cb < wr.heap.size := tr_lt_of_block hbe
    have hcbR : W1.heap.size < cb := by omega
    clear hrs hf hbe
    cases hp : Lib.hasPrefix r1 [125] with
    | true =>
      go_wp2_with (first
        | (go_at_call 61; (with_reducible refine (HIS.out _ _ _ ht _).mono ?_); rintro e2 w2 ⟨rfl, ht2, hk2g⟩; rw [show Lib.hasPrefix r1 (⟨#[125]⟩ : ByteArray).data.toList = true from hp])
        | (refine wpList_load_row rfl 50 _ rfl cb rfl 50 #[.int .u8 5, .int .i64 0, .string ⟨#[]⟩, .slice none 0 0, .slice al acc.length cl, .int .u8 0, .string ⟨#[]⟩, .bool false] (0, 0) _ (gr_block hk2g hcbR HBE.out) Tryz.underlying50 rfl iszV ?_)
        | (refine wpList_store_row rfl 50 _ _ rfl W.heap.size _ rfl rfl 50 #[.int .u8 0, .int .i64 0, .string ⟨#[]⟩, .slice none 0 0, .slice none 0 0, .int .u8 0, .string ⟨#[]⟩, .bool false] (gr_block (hg.trans hk2g) hlt HKZ.out) iszV rfl (all_one (shV_one (by exact ⟨_, _, _, _, _, _, _, _, _, _, _, _, rfl⟩)).1) ?_))
      have hs2 := hk2g.size
      refine bodyPost_ret (results_cell_row Tryz.results63 _ _ W.heap.size 50 _ (0, 0) _ rfl (setRow_heap _ _ _ _ _ _ (gr_block (hg.trans hk2g) hlt HKZ.out)) Tryz.underlying50 rfl iszV) rfl ?_
      refine HO.out (vCols 5 0 [] [] acc) (Lib.trimPrefix r1 [125]) k1 _ _ (by rw [← HRR.out]; simp [recV, hp]) ⟨_, rfl, ⟨_, _, _, _, _, _, _, _, _, _, _, _, rfl⟩, ?_⟩ (ht2.put (put_row _ _ _) hlt) ((put_row _ _ _).gr ((hgz.trans hg).trans hk2g) (Nat.le_refl _)) (ha1.trim _) (Nat.le_trans (trim_len _ _) hl1) hk1 hk2
      have hrep : ∀ w7, (∀ b, cb + 1 ≤ b → w7.heap[b]? = w2.heap[b]?) → w2.heap.size ≤ w7.heap.size → (ofRows 9 acc).Rep w7 (W.heap.size ≤ ·) (.slice al acc.length cl) := fun w7 h7 hs7 =>
        (HF.out.gr hk2g (by omega)).rep.keep hs7 (fun b _ h => by omega) (fun b h1 h2 => h7 b h1)
      exact row_one _ (row_one _ (row_one _ (row_rows (rep_nil 8) (row_rows (hrep _ (fun b hb => setRow_other _ _ _ _ (by omega)) (by simp [World.setRow])) (row_one _ (row_one _ (row_one _ .nil)))))))
    | false =>
      cases hw4 : wordV (Lib.trimPrefix (Lib.trimPrefix r1 [125]) [32]) with
      | none =>
        go_wp2_with (first
        | (go_at_call 83; (with_reducible refine (HWD.out _ _ _ ht3 ((ha1.trim _).trim _) (Nat.le_trans (trim_len _ _) (Nat.le_trans (trim_len _ _) hl1))).mono ?_); rw [show wordV (Lib.trimPrefix (Lib.trimPrefix r1 (⟨#[125]⟩ : ByteArray).data.toList) (⟨#[32]⟩ : ByteArray).data.toList) = _ from hw4]; rintro e4 w4 ⟨rfl, hg4⟩)
        | (go_at_call 61; first
          | ((with_reducible refine (HIS.out _ _ _ (ht4.alloc _) _).mono ?_); rintro e6 w6 ⟨rfl, ht6, hg6⟩)
          | ((with_reducible refine (HIS.out _ _ _ ht2 _).mono ?_); rintro e3 w3 ⟨rfl, ht3, hg3⟩)
          | ((with_reducible refine (HIS.out _ _ _ ht _).mono ?_); rintro e2 w2 ⟨rfl, ht2, hg2⟩; rw [show Lib.hasPrefix r1 (⟨#[125]⟩ : ByteArray).data.toList = false from hp])))
        exact ⟨rfl, HB.out _ (by rw [← HRR.out]; simp [recV, hp, hw4]) ((((hgz.trans hg).trans hg2).trans hg3).trans hg4)⟩
      | some p4 =>
        obtain ⟨⟨xk, xs, xn, xl⟩, r4⟩ := p4
        have hr4 := wordV_left hw4
        go_upto_region 6 with (first
        | (go_at_call 83; (with_reducible refine (HWD.out _ _ _ ht3 ((ha1.trim _).trim _) (Nat.le_trans (trim_len _ _) (Nat.le_trans (trim_len _ _) hl1))).mono ?_); rw [show wordV (Lib.trimPrefix (Lib.trimPrefix r1 (⟨#[125]⟩ : ByteArray).data.toList) (⟨#[32]⟩ : ByteArray).data.toList) = _ from hw4]; rintro e4 w4 ⟨v4, rfl, rfl, ht4, hg4⟩)
        | (go_at_call 61; first
          | ((with_reducible refine (HIS.out _ _ _ (ht4.alloc _) _).mono ?_); rintro e6 w6 ⟨rfl, ht6, hg6⟩)
          | ((with_reducible refine (HIS.out _ _ _ ht2 _).mono ?_); rintro e3 w3 ⟨rfl, ht3, hg3⟩)
          | ((with_reducible refine (HIS.out _ _ _ ht _).mono ?_); rintro e2 w2 ⟨rfl, ht2, hg2⟩; rw [show Lib.hasPrefix r1 (⟨#[125]⟩ : ByteArray).data.toList = false from hp])))
        have hgr : Gr W1 wr w6 := (((hg2.trans hg3).trans hg4).alloc _).trans hg6
        have htr : TD W1 (Lib.trimPrefix r4 [32]) k1 w6 := ht6
        have har : Asc (Lib.trimPrefix r4 [32]) := by rw [hr4]; exact (((ha1.trim _).trim _).drop _).trim _
        have hlr : (Lib.trimPrefix r4 [32]).length ≤ 140737488355328 := by
          refine Nat.le_trans (trim_len _ _) ?_
          rw [hr4, List.length_drop]
          exact Nat.le_trans (Nat.sub_le _ _) (Nat.le_trans (trim_len _ _) (Nat.le_trans (trim_len _ _) hl1))
        obtain ⟨rr, hrr⟩ : ∃ rr, Lib.trimPrefix r4 [32] = rr := ⟨_, rfl⟩
        rw [hrr] at htr har hlr
        have hs4 := ((hg2.trans hg3).trans hg4).size
        have hnbR : W1.heap.size < w4.heap.size := ht4.lt
        have hblk := gr_block hg6 hnbR (heap_alloc_new w4 (.cells #[.int .u8 (xk : Nat), .string ⟨xs.toArray⟩, .int .i64 xn, .int .i64 (xl : Nat)] 55))
        obtain ⟨nb, hnb⟩ : ∃ nb, w4.heap.size = nb := ⟨_, rfl⟩
        rw [hnb] at hblk hnbR
        have HNM : Hid (∀ w', Gr W1 w6 w' → w'.cell? ⟨nb, 1, none⟩ = some (.string ⟨xs.toArray⟩)) := Lib.hid fun w' hw => (blk4 (gr_block hw hnbR hblk)).1.2.1
        try rw [hnb]
        clear hblk hnb ht2 ht3 ht4 ht6 hr4
        have hWR := hgr.size
        cases hpv : vm rr k1 with
        | none =>
          refine wp_region_held_drew (S := fun w' => w'.cell? ⟨cb, 4, none⟩ = some (.slice al acc.length cl) ∧ w'.cell? ⟨nb, 1, none⟩ = some (.string ⟨xs.toArray⟩)) (by kernel_rfl) (⟨(blk8 (gr_block hgr.drew hcbR HBE.out)).1.2.2.2.2.1, HNM.out _ ((gr_refl W1 w6).drew)⟩) (fun hH => ?_)
          refine wpAnyH_take (i := 0) (oi := { dst := some 17, op := Go.Op.fieldAddr 50 (Go.Operand.tmp 5) 4, type := 0, pos := "told.go:53", after := #[], guard := none }) (v := ?_) rfl (by kernel_rfl) (by kernel_rfl) (by kernel_rfl) (fun _ _ _ h => h) (Or.inl ⟨by rfl, ?_⟩) hH ?_; rotate_left; (focus (intro wS hSw; (try dsimp only at hSw); go_simp; (try with_reducible rfl))); simp only [Act.put, List.setIfInBounds_toArray, List.set_cons_zero, List.set_cons_succ]
          refine wpAnyH_take (i := 1) (oi := { dst := some 18, op := Go.Op.load 48 (Go.Operand.tmp 17), type := 48, pos := "told.go:53", after := #[{ on := 0, ground := Go.Ground.data }], guard := none }) (v := ?_) rfl (by kernel_rfl) (by kernel_rfl) (by kernel_rfl) (fun _ _ _ h => h) (Or.inl ⟨by rfl, ?_⟩) hH ?_; rotate_left; (focus (intro wS hSw; (try dsimp only at hSw); go_simp; (try with_reducible rfl))); simp only [Act.put, List.setIfInBounds_toArray, List.set_cons_zero, List.set_cons_succ]
          refine wpAnyH_take (i := 2) (oi := { dst := some 19, op := Go.Op.fieldAddr 55 (Go.Operand.tmp 6) 1, type := 0, pos := "told.go:53", after := #[], guard := none }) (v := ?_) rfl (by kernel_rfl) (by kernel_rfl) (by kernel_rfl) (fun _ _ _ h => h) (Or.inl ⟨by rfl, ?_⟩) hH ?_; rotate_left; (focus (intro wS hSw; (try dsimp only at hSw); go_simp; (try with_reducible rfl))); simp only [Act.put, List.setIfInBounds_toArray, List.set_cons_zero, List.set_cons_succ]
          refine wpAnyH_take (i := 3) (oi := { dst := some 20, op := Go.Op.load 9 (Go.Operand.tmp 19), type := 9, pos := "told.go:53", after := #[{ on := 2, ground := Go.Ground.data }], guard := none }) (v := ?_) rfl (by kernel_rfl) (by kernel_rfl) (by kernel_rfl) (fun _ _ _ h => h) (Or.inl ⟨by rfl, ?_⟩) hH ?_; rotate_left; (focus (intro wS hSw; (try dsimp only at hSw); go_simp; (try with_reducible rfl))); simp only [Act.put, List.setIfInBounds_toArray, List.set_cons_zero, List.set_cons_succ]
          refine wpAnyH_take (i := 4) (oi := { dst := some 21, op := Go.Op.move (Go.Operand.tmp 0), type := 105, pos := "told.go:53", after := #[], guard := none }) (v := ?_) rfl (by kernel_rfl) (by kernel_rfl) (by kernel_rfl) (fun _ _ _ h => h) (Or.inl ⟨by rfl, ?_⟩) hH ?_; rotate_left; (focus (intro wS hSw; (try dsimp only at hSw); go_simp; (try with_reducible rfl))); simp only [Act.put, List.setIfInBounds_toArray, List.set_cons_zero, List.set_cons_succ]
          refine wpAnyH_take (i := 5) (oi := { dst := some 22, op := Go.Op.move (Go.Operand.tmp 1), type := 3, pos := "told.go:53", after := #[], guard := none }) (v := ?_) rfl (by kernel_rfl) (by kernel_rfl) (by kernel_rfl) (fun _ _ _ h => h) (Or.inl ⟨by rfl, ?_⟩) hH ?_; rotate_left; (focus (intro wS hSw; (try dsimp only at hSw); go_simp; (try with_reducible rfl))); simp only [Act.put, List.setIfInBounds_toArray, List.set_cons_zero, List.set_cons_succ]
          refine wpAnyH_take (i := 6) (oi := { dst := some 23, op := Go.Op.binOp Go.BinOp.add 3 (Go.Operand.tmp 22) (Go.Operand.const (Go.Value.int Go.IntKind.i64 1)) 3, type := 3, pos := "told.go:53", after := #[{ on := 5, ground := Go.Ground.data }], guard := none }) (v := ?_) rfl (by kernel_rfl) (by kernel_rfl) (by kernel_rfl) (fun _ _ _ h => h) (Or.inl ⟨by rfl, ?_⟩) hH ?_; rotate_left; (focus (intro wS hSw; (try dsimp only at hSw); go_simp; (try with_reducible rfl))); simp only [Act.put, List.setIfInBounds_toArray, List.set_cons_zero, List.set_cons_succ]
          refine wpAnyH_ready (rs := [7]) (by kernel_rfl) (by simp) ?_
          refine AllReadyH.cons (o := { dst := some 24, op := Go.Op.call { callee := Go.Callee.value (Go.Operand.func 41), args := #[Go.Operand.tmp 21, Go.Operand.tmp 23], argTypes := #[105, 3] }, type := 50, pos := "told.go:53", after := #[{ on := 4, ground := Go.Ground.data }, { on := 6, ground := Go.Ground.data }], guard := none }) rfl (fun K hK => ?_) AllReadyH.nil
          go_simp
          go_at_call 41
          with_reducible refine (HV.out rr k1 _ htr.drew har hlr hk1 hk2).mono ?_
          intro e9 w9 hq9
          obtain ⟨rfl, hk9⟩ := PostV2.of_none hq9 hpv
          exact ⟨rfl, HB.out _ (by rw [← HRR.out]; simp [recV, hp, hw4, hrr, hpv]) (((hgz.trans hg).trans hgr.drew).trans hk9)⟩
        | some p9 =>
          obtain ⟨x9, r9, k9⟩ := p9
          have c2w := (blk8 (gr_block hgr hcbR HBE.out)).1.2.2.2.2.1
          have c2d := (blk8 (gr_block hgr.drew hcbR HBE.out)).1.2.2.2.2.1
          have n2w := HNM.out _ (gr_refl W1 w6)
          have n2d := HNM.out _ ((gr_refl W1 w6).drew)
          go_region_law (first
            | (refine append_RL (ts := (.sc (str xs) :: x9)) Tryz.underlying48 infF rfl (by decide) (by decide) HF9.out hsz9.out (by omega) (by first | (rw [← hrow9.length]; rfl) | (rw [List.length_cons, ← hrow9.length]; rfl)) HRW9.out ⟨_, _, _, _, _, _, _, _, _, _, _, _, _, rfl⟩ (shF_one ⟨_, _, _, _, _, _, _, _, _, _, _, _, _, rfl⟩).1 rfl _ _ (by rfl) (by rfl) (by rfl) ?_; intro v10 w10 hf10 hg10 ho10; obtain ⟨a10, n10, c10, rfl⟩ := hf10.slice3; have HX10 := Lib.hid (HX9.out _ hg10); obtain ⟨⟨p0, p1, p2, p3, p4, -⟩, ⟨q0, q1, q2, q3, q4, -⟩⟩ := blk8 HX10.out)
            | (go_simp; go_wp2_with (go_at_call 41; (with_reducible refine (HV.out rr k1 _ htr.drew har hlr hk1 hk2).mono ?_); intro e9 w9 hq9; obtain ⟨v9, rfl, ⟨vs9, rfl, ⟨y0, y1, y2, y3, y3l, y3q, y4, y4l, y4q, y5, y6, y7, rfl⟩, hrow9⟩, ht9, hk9, ha9, hl9, hkk9, hkm9⟩ := PostV2.of_some hq9 hpv; have HK9 := Lib.hid (hgr.drew.trans hk9); have hsz9 := Lib.hid (show cb + 1 ≤ w9.heap.size by have : wr.heap.size ≤ w9.heap.size := HK9.out.size; omega); have HF9 := Lib.hid (HF.out.gr HK9.out (by omega)); have HRW9 := Lib.hid (row_one (.string ⟨xs.toArray⟩) (hrow9.keep (ok' := fun b => cb + 1 ≤ b ∧ some b ≠ (Value.slice al acc.length cl).ownBlock) (Nat.le_refl _) (fun b h1 h2 => by have h3 : w6.heap.size ≤ b := h2; have h4 := hgr.size; exact ⟨by omega, fun e => by have := HF.out.own e.symm; omega⟩) (fun _ _ _ => rfl))); have HX9 : Hid (∀ w10, w9.grownBy w10 (Value.slice al acc.length cl).ownBlock → w10.heap[cb]? = some (.cells #[.int .u8 5, .int .i64 0, .string ⟨#[]⟩, .slice none 0 0, .slice al acc.length cl, .int .u8 0, .string ⟨#[]⟩, .bool false] 50 (0, 0))) := Lib.hid (fun w10 hg => by rw [hg.block _ (by have := hsz9.out; omega) (fun e => by have := HF.out.own e.symm; omega)]; exact gr_block HK9.out hcbR HBE.out); have c29 := (blk8 (gr_block HK9.out hcbR HBE.out)).1.2.2.2.2.1; have c29a := fun O => (blk8 (gr_block (HK9.out.alloc O) hcbR HBE.out)).1.2.2.2.2.1; have n29 := HNM.out _ ((gr_refl W1 w6).drew.trans hk9))))
          all_goals (
            obtain ⟨W11, hW11⟩ : ∃ W11, w10.setCell ⟨cb, 4, none⟩ (.slice a10 n10 c10) = W11 := ⟨_, rfl⟩
            have hput : Put cb w10 W11 := by rw [← hW11]; exact (Put.refl _ _).set _ _
            have HC11 : Hid (W11.heap[cb]? = some (.cells #[.int .u8 5, .int .i64 0, .string ⟨#[]⟩, .slice none 0 0, .slice a10 n10 c10, .int .u8 0, .string ⟨#[]⟩, .bool false] 50 (0, 0))) := Lib.hid (by rw [← hW11]; exact set8_4 HX10.out _)
            have hown : ∀ g, (Value.slice al acc.length cl).ownBlock = some g → cb + 1 ≤ g ∧ g < wr.heap.size := fun g e => HF.out.own e
            have ht11 : TD W1 r9 k9 W11 := (ht9.row hg10 (fun g e => by have := hown g e; omega)).put hput hcbR
            have hg11 : Gr W1 Wz W11 := hput.gr ((hg.trans HK9.out).row hg10 (fun g e => by have := hown g e; omega)) (by omega)
            have hf11 : FRows ShF 70 9 (cb + 1) (acc ++ [(.sc (str xs) :: x9)]) (.slice a10 n10 c10) W11 := frows_put hput hf10
            try rw [hW11]
            clear hW11 p0 p1 p2 p3 p4 q0 q1 q2 q3 q4 c2w c2d c29 c29a n2w n2d n29
            have HR11 := Lib.hid hf11
            clear hf10 hf11
            go_wp2_with fail
            go_roundw
            case rel =>
              refine ⟨acc ++ [(.sc (str xs) :: x9)], r9, k9, m2, _, HC11.out, HR11.out, ht11, hg11, ha9, hl9, by omega, hkm9, by rw [List.length_append]; simp; omega, by omega, ?_⟩
              rw [← HRR.out]
              simp only [recV, hp, hw4, hrr, Bool.false_eq_true, if_false, hpv]
              cases recV vm m2 r9 k9 with
              | none => rfl
              | some p => simp only [Option.map_some]; rw [List.append_assoc]; rfl
            case measure =>
              have e4 := ht11.tk
              have e1 := HTK.out
              omega
            )
end Go.Proofs.YtdlmemalefhgmaaGreatDoor
namespace Go.Proofs.YtdlmemalefhgmaaGreatDoor
set_option linter.unusedVariables false
set_option linter.unusedSimpArgs false
open Go.RowKit G

/-- THE VALUE THAT A TEXT BEGINS WITH; f: more than may lie within it. -/
def valueV : Nat → Nat → Str → Nat → Vr
  | 0, _, _, _ => none
  | f + 1, deep, r, k => if 4096 < k + 1 ∨ 64 < deep then none
    else if Lib.hasPrefix r [91] = true then (listV (valueV f (deep + 1)) 4098 (Lib.trimPrefix r [91]) (k + 1)).map fun p => (vCols 4 0 [] p.1 [], p.2)
    else if Lib.hasPrefix (Lib.trimPrefix r [91]) [123] = true then (recV (valueV f (deep + 1)) 4098 (Lib.trimPrefix (Lib.trimPrefix r [91]) [123]) (k + 1)).map fun p => (vCols 5 0 [] [] p.1, p.2)
    else plainV (Lib.trimPrefix (Lib.trimPrefix r [91]) [123]) (k + 1)
theorem valueV_past (f deep : Nat) (r : Str) (k : Nat) (h : 4096 < k + 1 ∨ 64 < deep) : valueV f deep r k = none := by
  cases f with
  | zero => rfl
  | succ f => unfold valueV; rw [if_pos h]
theorem plainV_left {r : Str} {k : Nat} {x : List T} {r' : Str} {k' : Nat} (h : plainV r k = some (x, r', k')) : r' = r.drop (firstN r) ∧ k' = k := by
  unfold plainV at h
  cases hw : wordV r with
  | none => rw [hw] at h; cases h
  | some p =>
    obtain ⟨w, r2⟩ := p
    rw [hw] at h
    have hl := wordV_left hw
    simp only at h
    split at h
    · injection h with h; injection h with h1 h2; injection h2 with h2 h3; exact ⟨by rw [← h2, hl], h3.symm⟩
    · split at h
      · injection h with h; injection h with h1 h2; injection h2 with h2 h3; exact ⟨by rw [← h2, hl], h3.symm⟩
      · split at h
        · injection h with h; injection h with h1 h2; injection h2 with h2 h3; exact ⟨by rw [← h2, hl], h3.symm⟩
        · split at h
          · injection h with h; injection h with h1 h2; injection h2 with h2 h3; exact ⟨by rw [← h2, hl], h3.symm⟩
          · split at h
            · injection h with h; injection h with h1 h2; injection h2 with h2 h3; exact ⟨by rw [← h2, hl], h3.symm⟩
            · cases h
theorem PostV.more {W1 : World} {r : Str} {k : Nat} {W : World} {Fn : List T → Value → World → Prop} {e : Ending} {W' : World} (h : PostV W1 W Fn (plainV r k) e W') (ha : Asc r) (hl : r.length ≤ 140737488355328) (hk : k ≤ 4096) : PostV2 W1 W Fn k (plainV r k) e W' := by
  cases hp : plainV r k with
  | none => rw [hp] at h; exact h
  | some p =>
    obtain ⟨x, r', k'⟩ := p
    rw [hp] at h
    obtain ⟨v, h1, h2, h3, h4⟩ := h
    obtain ⟨e1, e2⟩ := plainV_left hp
    exact ⟨v, h1, h2, h3, h4, by rw [e1]; exact ha.drop _, by rw [e1, List.length_drop]; omega, by omega, by omega⟩
set_option maxRecDepth 100000 in
set_option maxHeartbeats 16000000 in
theorem value_step {W1 : World} (htab : LTabs W1) (f : Nat) (ih : ∀ deep r k W, 64 < f + deep → deep ≤ 65 → TD W1 r k W → Asc r → r.length ≤ 140737488355328 → k ≤ 4096 → Calls Tryz.prog 41 #[rp W1, .int .i64 (deep : Nat)] W (PostV2 W1 W (FT ShV W.heap.size) (k + 1) (valueV f deep r k)))
    {r : Str} {k : Nat} {W : World} (deep : Nat) (hfd : 64 < f + 1 + deep) (hdp : deep ≤ 65) (h : TD W1 r k W) (ha : Asc r) (hl : r.length ≤ 140737488355328) (hk : k ≤ 4096) :
    Calls Tryz.prog 41 #[rp W1, .int .i64 (deep : Nat)] W (PostV2 W1 W (FT ShV W.heap.size) (k + 1) (valueV (f + 1) deep r k)) := by
  obtain ⟨W0, hW0⟩ : ∃ W0, W.alloc (.cells #[.int .u8 0, .int .i64 0, .string ⟨#[]⟩, .slice none 0 0, .slice none 0 0, .int .u8 0, .string ⟨#[]⟩, .bool false] 50) = W0 := ⟨_, rfl⟩
  have hlt := h.lt
  have hr0 : TD W1 r k W0 := by rw [← hW0]; exact h.alloc _
  have hg0 : Gr W1 W W0 := by rw [← hW0]; exact (gr_refl W1 W).alloc _
  have hz0 : W0.heap.size = W.heap.size + 1 := by rw [← hW0]; simp
  have hb0 : W0.heap[W.heap.size]? = some (.cells #[.int .u8 0, .int .i64 0, .string ⟨#[]⟩, .slice none 0 0, .slice none 0 0, .int .u8 0, .string ⟨#[]⟩, .bool false] 50 (0, 0)) := by rw [← hW0]; exact heap_alloc_new _ _
  obtain ⟨⟨c0, c1⟩, f0, f1⟩ := hr0.cells
  have HIS := Lib.hid (fun r k W (h : TD W1 r k W) (p : ByteArray) => is_v h p)
  have hwr : IntKind.i64.wrap ((k : Int) + 1) = (k : Int) + 1 := IntWalk.i64_in _ (by omega)
  obtain ⟨W2, hW2⟩ : ∃ W2, W0.setCell ⟨W1.heap.size, 1, none⟩ (.int .i64 ((k : Int) + 1)) = W2 := ⟨_, rfl⟩
  have HT2 : Hid (TD W1 r (k + 1) W2) := Lib.hid (by rw [← hW2]; exact hr0.setK (k + 1))
  have hg2 : Gr W1 W W2 := by rw [← hW2]; exact hg0.set 1 _
  have hz2 : W2.heap.size = W0.heap.size := by rw [← hW2]; simp [World.setCell]
  have HK2 : Hid (W2.heap[W.heap.size]? = some (.cells #[.int .u8 0, .int .i64 0, .string ⟨#[]⟩, .slice none 0 0, .slice none 0 0, .int .u8 0, .string ⟨#[]⟩, .bool false] 50 (0, 0))) := Lib.hid (by rw [← hW2, Below.heap_setCell _ _ _ _ (by show W.heap.size ≠ W1.heap.size; omega)]; exact hb0)
  have hc1' : W2.cell? ⟨W1.heap.size, 1, none⟩ = some (.int .i64 ((k : Int) + 1)) := HT2.out.cells.1.2
  obtain ⟨rs, hrs⟩ : ∃ rs, valueV (f + 1) deep r k = rs := ⟨_, rfl⟩
  rw [hrs]
  obtain ⟨post, hpost⟩ : ∃ p, PostV2 W1 W (FT ShV W.heap.size) (k + 1) rs = p := ⟨_, rfl⟩
  rw [hpost]
  have HB : Hid (∀ w', rs = none → Gr W1 W w' → post (.panicked [pz]) w') := Lib.hid fun w' h1 h2 => by rw [← hpost, h1]; exact ⟨rfl, h2⟩
  have HO : Hid (∀ x r' k' v w', rs = some (x, r', k') → FT ShV W.heap.size x v w' → TD W1 r' k' w' → Gr W1 W w' → Asc r' → r'.length ≤ 140737488355328 → k + 1 ≤ k' → k' ≤ 4096 → post (.returned v) w') := Lib.hid fun x r' k' v w' h1 h2 h3 h4 h5 h6 h7 h8 => by rw [← hpost, h1]; exact ⟨_, rfl, h2, h3, h4, h5, h6, h7, h8⟩
  have HRS := Lib.hid hrs
  have hz02 : W.heap.size + 1 ≤ W2.heap.size := by omega
  clear hpost h hr0 hrs hb0 hz0 hz2
  by_cases hc : 4096 < k + 1 ∨ 64 < deep
  · have hN := HB.out W2 (by rw [← HRS.out]; exact valueV_past _ _ _ _ hc) hg2
    by_cases hk4 : 4096 < k + 1
    · have t1 : (4096 : Int) < (k : Int) + 1 := by omega
      go_enter Tryz.func41, Tryz.ntmps41
      go_wp2
      exact ⟨rfl, hN⟩
    · have t1 : ¬ (4096 : Int) < (k : Int) + 1 := by omega
      have t2 : (64 : Int) < (deep : Int) := by omega
      go_enter Tryz.func41, Tryz.ntmps41
      go_wp2
      exact ⟨rfl, hN⟩
  · have t1 : ¬ (4096 : Int) < (k : Int) + 1 := by omega
    have t2 : ¬ (64 : Int) < (deep : Int) := by omega
    have hc' := hc
    have HV : Hid (∀ r' k' W', TD W1 r' k' W' → Asc r' → r'.length ≤ 140737488355328 → k + 1 ≤ k' → k' ≤ 4096 → Calls Tryz.prog 41 #[rp W1, .int .i64 ((deep : Int) + 1)] W' (PostV2 W1 W' (FT ShV W'.heap.size) (k' + 1) (valueV f (deep + 1) r' k'))) := Lib.hid fun r' k' W' h1 h2 h3 h4 h5 => ih (deep + 1) r' k' W' (by omega) (by omega) h1 h2 h3 h5
    clear ih
    cases hp1 : Lib.hasPrefix r [91] with
    | true =>
      cases hq : ((listV (valueV f (deep + 1)) 4098 (Lib.trimPrefix r [91]) (k + 1)).map fun p => (vCols 4 0 [] p.1 [], p.2)) with
      | none =>
        go_enter Tryz.func41, Tryz.ntmps41
        go_wp2_with (first
          | (go_at_call 61; first
            | ((with_reducible refine (HIS.out _ _ _ HT2.out _).mono ?_); rintro e5 w5 ⟨rfl, ht5, hg5⟩; rw [show Lib.hasPrefix r (⟨#[91]⟩ : ByteArray).data.toList = true from hp1]; have hgA := hg5))
          | (go_at_call 62; (with_reducible refine ((list_v (W1 := W1) (r := (Lib.trimPrefix r [91])) ht5 (ha.trim _) (Nat.le_trans (trim_len _ _) hl) (show k + 1 ≤ 4096 by omega) htab deep (by omega) HV.out 4098 (by omega))).mono ?_); intro e4 w4 hq4; obtain ⟨rfl, hk4⟩ := PostV2.of_none hq4 hq))
        exact ⟨rfl, HB.out _ (by rw [← HRS.out]; unfold valueV; rw [if_neg hc, if_pos hp1]; simp [hq]) (hg2.trans (hgA.trans hk4))⟩
      | some p =>
        obtain ⟨x4, r4, k4⟩ := p
        go_enter Tryz.func41, Tryz.ntmps41
        go_wp2_with (first
          | (go_at_call 61; first
            | ((with_reducible refine (HIS.out _ _ _ HT2.out _).mono ?_); rintro e5 w5 ⟨rfl, ht5, hg5⟩; rw [show Lib.hasPrefix r (⟨#[91]⟩ : ByteArray).data.toList = true from hp1]; have hgA := hg5))
          | (go_at_call 62; (with_reducible refine ((list_v (W1 := W1) (r := (Lib.trimPrefix r [91])) ht5 (ha.trim _) (Nat.le_trans (trim_len _ _) hl) (show k + 1 ≤ 4096 by omega) htab deep (by omega) HV.out 4098 (by omega))).mono ?_); intro e4 w4 hq4; obtain ⟨v4, rfl, ⟨vs4, rfl, ⟨y0, y1, y2, y3, y3l, y3q, y4, y4l, y4q, y5, y6, y7, rfl⟩, hrow4⟩, ht4, hk4, ha4, hl4, hkk4, hkm4⟩ := PostV2.of_some hq4 hq)
          | (refine wpList_store_row rfl 50 _ _ rfl W.heap.size _ rfl rfl 50 #[.int .u8 0, .int .i64 0, .string ⟨#[]⟩, .slice none 0 0, .slice none 0 0, .int .u8 0, .string ⟨#[]⟩, .bool false] (gr_block (hgA.trans hk4) hlt HK2.out) iszV rfl (all_one (shV_one (by exact ⟨_, _, _, _, _, _, _, _, _, _, _, _, rfl⟩)).1) ?_))
        refine bodyPost_ret (results_cell_row Tryz.results41 _ _ W.heap.size 50 _ (0, 0) _ rfl (setRow_heap _ _ _ _ _ _ (gr_block (hgA.trans hk4) hlt HK2.out)) Tryz.underlying50 rfl iszV) rfl ?_
        have hsA := hgA.size
        refine HO.out x4 r4 k4 _ _ (by rw [← HRS.out]; unfold valueV; rw [if_neg hc, if_pos hp1]; simp [hq]) ⟨_, rfl, ⟨_, _, _, _, _, _, _, _, _, _, _, _, rfl⟩, ?_⟩ (ht4.put (put_row _ _ _) hlt) ((put_row _ _ _).gr (hg2.trans (hgA.trans hk4)) (Nat.le_refl _)) ha4 hl4 (by omega) hkm4
        exact Row.low (C := W.heap.size) (by omega) (Put.rowB (g := W.heap.size) (put_row _ _ _) (B := W.heap.size + 1) (by omega) (hrow4.low (by omega)))
    | false =>
      have hp1n : ¬ Lib.hasPrefix r [91] = true := by rw [hp1]; decide
      cases hp2 : Lib.hasPrefix (Lib.trimPrefix r [91]) [123] with
      | true =>
        cases hq : ((recV (valueV f (deep + 1)) 4098 (Lib.trimPrefix (Lib.trimPrefix r [91]) [123]) (k + 1)).map fun p => (vCols 5 0 [] [] p.1, p.2)) with
        | none =>
          go_enter Tryz.func41, Tryz.ntmps41
          go_wp2_with (first
            | (go_at_call 61; first
              | ((with_reducible refine (HIS.out _ _ _ ht5 _).mono ?_); rintro e6 w6 ⟨rfl, ht6, hg6⟩; rw [show Lib.hasPrefix (Lib.trimPrefix r (⟨#[91]⟩ : ByteArray).data.toList) (⟨#[123]⟩ : ByteArray).data.toList = true from hp2]; have hgA := hg5.trans hg6)
              | ((with_reducible refine (HIS.out _ _ _ HT2.out _).mono ?_); rintro e5 w5 ⟨rfl, ht5, hg5⟩; rw [show Lib.hasPrefix r (⟨#[91]⟩ : ByteArray).data.toList = false from hp1]; have hgA := hg5))
            | (go_at_call 63; (with_reducible refine ((rec_v (W1 := W1) (r := (Lib.trimPrefix (Lib.trimPrefix r [91]) [123])) ht6 ((ha.trim _).trim _) (Nat.le_trans (trim_len _ _) (Nat.le_trans (trim_len _ _) hl)) (show k + 1 ≤ 4096 by omega) htab deep (by omega) HV.out 4098 (by omega))).mono ?_); intro e4 w4 hq4; obtain ⟨rfl, hk4⟩ := PostV2.of_none hq4 hq))
          exact ⟨rfl, HB.out _ (by rw [← HRS.out]; unfold valueV; rw [if_neg hc, if_neg hp1n, if_pos hp2]; simp [hq]) (hg2.trans (hgA.trans hk4))⟩
        | some p =>
          obtain ⟨x4, r4, k4⟩ := p
          go_enter Tryz.func41, Tryz.ntmps41
          go_wp2_with (first
            | (go_at_call 61; first
              | ((with_reducible refine (HIS.out _ _ _ ht5 _).mono ?_); rintro e6 w6 ⟨rfl, ht6, hg6⟩; rw [show Lib.hasPrefix (Lib.trimPrefix r (⟨#[91]⟩ : ByteArray).data.toList) (⟨#[123]⟩ : ByteArray).data.toList = true from hp2]; have hgA := hg5.trans hg6)
              | ((with_reducible refine (HIS.out _ _ _ HT2.out _).mono ?_); rintro e5 w5 ⟨rfl, ht5, hg5⟩; rw [show Lib.hasPrefix r (⟨#[91]⟩ : ByteArray).data.toList = false from hp1]; have hgA := hg5))
            | (go_at_call 63; (with_reducible refine ((rec_v (W1 := W1) (r := (Lib.trimPrefix (Lib.trimPrefix r [91]) [123])) ht6 ((ha.trim _).trim _) (Nat.le_trans (trim_len _ _) (Nat.le_trans (trim_len _ _) hl)) (show k + 1 ≤ 4096 by omega) htab deep (by omega) HV.out 4098 (by omega))).mono ?_); intro e4 w4 hq4; obtain ⟨v4, rfl, ⟨vs4, rfl, ⟨y0, y1, y2, y3, y3l, y3q, y4, y4l, y4q, y5, y6, y7, rfl⟩, hrow4⟩, ht4, hk4, ha4, hl4, hkk4, hkm4⟩ := PostV2.of_some hq4 hq)
            | (refine wpList_store_row rfl 50 _ _ rfl W.heap.size _ rfl rfl 50 #[.int .u8 0, .int .i64 0, .string ⟨#[]⟩, .slice none 0 0, .slice none 0 0, .int .u8 0, .string ⟨#[]⟩, .bool false] (gr_block (hgA.trans hk4) hlt HK2.out) iszV rfl (all_one (shV_one (by exact ⟨_, _, _, _, _, _, _, _, _, _, _, _, rfl⟩)).1) ?_))
          refine bodyPost_ret (results_cell_row Tryz.results41 _ _ W.heap.size 50 _ (0, 0) _ rfl (setRow_heap _ _ _ _ _ _ (gr_block (hgA.trans hk4) hlt HK2.out)) Tryz.underlying50 rfl iszV) rfl ?_
          have hsA := hgA.size
          refine HO.out x4 r4 k4 _ _ (by rw [← HRS.out]; unfold valueV; rw [if_neg hc, if_neg hp1n, if_pos hp2]; simp [hq]) ⟨_, rfl, ⟨_, _, _, _, _, _, _, _, _, _, _, _, rfl⟩, ?_⟩ (ht4.put (put_row _ _ _) hlt) ((put_row _ _ _).gr (hg2.trans (hgA.trans hk4)) (Nat.le_refl _)) ha4 hl4 (by omega) hkm4
          exact Row.low (C := W.heap.size) (by omega) (Put.rowB (g := W.heap.size) (put_row _ _ _) (B := W.heap.size + 1) (by omega) (hrow4.low (by omega)))
      | false =>
        have hp2n : ¬ Lib.hasPrefix (Lib.trimPrefix r [91]) [123] = true := by rw [hp2]; decide
        cases hq : plainV (Lib.trimPrefix (Lib.trimPrefix r [91]) [123]) (k + 1) with
        | none =>
          go_enter Tryz.func41, Tryz.ntmps41
          go_wp2_with (first
            | (go_at_call 61; first
              | ((with_reducible refine (HIS.out _ _ _ ht5 _).mono ?_); rintro e6 w6 ⟨rfl, ht6, hg6⟩; rw [show Lib.hasPrefix (Lib.trimPrefix r (⟨#[91]⟩ : ByteArray).data.toList) (⟨#[123]⟩ : ByteArray).data.toList = false from hp2]; have hgA := hg5.trans hg6)
              | ((with_reducible refine (HIS.out _ _ _ HT2.out _).mono ?_); rintro e5 w5 ⟨rfl, ht5, hg5⟩; rw [show Lib.hasPrefix r (⟨#[91]⟩ : ByteArray).data.toList = false from hp1]; have hgA := hg5))
            | (go_at_call 64; (with_reducible refine (((plain_v (W1 := W1) (r := (Lib.trimPrefix (Lib.trimPrefix r [91]) [123])) ht6 ((ha.trim _).trim _) (Nat.le_trans (trim_len _ _) (Nat.le_trans (trim_len _ _) hl)) htab).mono (fun e w h => PostV.more h ((ha.trim _).trim _) (Nat.le_trans (trim_len _ _) (Nat.le_trans (trim_len _ _) hl)) (show k + 1 ≤ 4096 by omega)))).mono ?_); intro e4 w4 hq4; obtain ⟨rfl, hk4⟩ := PostV2.of_none hq4 hq))
          exact ⟨rfl, HB.out _ (by rw [← HRS.out]; unfold valueV; rw [if_neg hc, if_neg hp1n, if_neg hp2n]; simp [hq]) (hg2.trans (hgA.trans hk4))⟩
        | some p =>
          obtain ⟨x4, r4, k4⟩ := p
          go_enter Tryz.func41, Tryz.ntmps41
          go_wp2_with (first
            | (go_at_call 61; first
              | ((with_reducible refine (HIS.out _ _ _ ht5 _).mono ?_); rintro e6 w6 ⟨rfl, ht6, hg6⟩; rw [show Lib.hasPrefix (Lib.trimPrefix r (⟨#[91]⟩ : ByteArray).data.toList) (⟨#[123]⟩ : ByteArray).data.toList = false from hp2]; have hgA := hg5.trans hg6)
              | ((with_reducible refine (HIS.out _ _ _ HT2.out _).mono ?_); rintro e5 w5 ⟨rfl, ht5, hg5⟩; rw [show Lib.hasPrefix r (⟨#[91]⟩ : ByteArray).data.toList = false from hp1]; have hgA := hg5))
            | (go_at_call 64; (with_reducible refine (((plain_v (W1 := W1) (r := (Lib.trimPrefix (Lib.trimPrefix r [91]) [123])) ht6 ((ha.trim _).trim _) (Nat.le_trans (trim_len _ _) (Nat.le_trans (trim_len _ _) hl)) htab).mono (fun e w h => PostV.more h ((ha.trim _).trim _) (Nat.le_trans (trim_len _ _) (Nat.le_trans (trim_len _ _) hl)) (show k + 1 ≤ 4096 by omega)))).mono ?_); intro e4 w4 hq4; obtain ⟨v4, rfl, ⟨vs4, rfl, ⟨y0, y1, y2, y3, y3l, y3q, y4, y4l, y4q, y5, y6, y7, rfl⟩, hrow4⟩, ht4, hk4, ha4, hl4, hkk4, hkm4⟩ := PostV2.of_some hq4 hq)
            | (refine wpList_store_row rfl 50 _ _ rfl W.heap.size _ rfl rfl 50 #[.int .u8 0, .int .i64 0, .string ⟨#[]⟩, .slice none 0 0, .slice none 0 0, .int .u8 0, .string ⟨#[]⟩, .bool false] (gr_block (hgA.trans hk4) hlt HK2.out) iszV rfl (all_one (shV_one (by exact ⟨_, _, _, _, _, _, _, _, _, _, _, _, rfl⟩)).1) ?_))
          refine bodyPost_ret (results_cell_row Tryz.results41 _ _ W.heap.size 50 _ (0, 0) _ rfl (setRow_heap _ _ _ _ _ _ (gr_block (hgA.trans hk4) hlt HK2.out)) Tryz.underlying50 rfl iszV) rfl ?_
          have hsA := hgA.size
          refine HO.out x4 r4 k4 _ _ (by rw [← HRS.out]; unfold valueV; rw [if_neg hc, if_neg hp1n, if_neg hp2n]; simp [hq]) ⟨_, rfl, ⟨_, _, _, _, _, _, _, _, _, _, _, _, rfl⟩, ?_⟩ (ht4.put (put_row _ _ _) hlt) ((put_row _ _ _).gr (hg2.trans (hgA.trans hk4)) (Nat.le_refl _)) ha4 hl4 (by omega) hkm4
          exact Row.low (C := W.heap.size) (by omega) (Put.rowB (g := W.heap.size) (put_row _ _ _) (B := W.heap.size + 1) (by omega) (hrow4.low (by omega)))
set_option maxRecDepth 100000 in
set_option maxHeartbeats 16000000 in
theorem value_past {W1 : World} {r : Str} {k : Nat} {W : World} (deep : Nat) (hd : 64 < deep) (hdp : deep ≤ 65) (h : TD W1 r k W) (hk : k ≤ 4096) :
    Calls Tryz.prog 41 #[rp W1, .int .i64 (deep : Nat)] W (PostV2 W1 W (FT ShV W.heap.size) (k + 1) (valueV 0 deep r k)) := by
  obtain ⟨W0, hW0⟩ : ∃ W0, W.alloc (.cells #[.int .u8 0, .int .i64 0, .string ⟨#[]⟩, .slice none 0 0, .slice none 0 0, .int .u8 0, .string ⟨#[]⟩, .bool false] 50) = W0 := ⟨_, rfl⟩
  have hr0 : TD W1 r k W0 := by rw [← hW0]; exact h.alloc _
  have hg0 : Gr W1 W W0 := by rw [← hW0]; exact (gr_refl W1 W).alloc _
  obtain ⟨⟨c0, c1⟩, f0, f1⟩ := hr0.cells
  have hwr : IntKind.i64.wrap ((k : Int) + 1) = (k : Int) + 1 := IntWalk.i64_in _ (by omega)
  obtain ⟨W2, hW2⟩ : ∃ W2, W0.setCell ⟨W1.heap.size, 1, none⟩ (.int .i64 ((k : Int) + 1)) = W2 := ⟨_, rfl⟩
  have HT2 : TD W1 r (k + 1) W2 := by rw [← hW2]; exact hr0.setK (k + 1)
  have hg2 : Gr W1 W W2 := by rw [← hW2]; exact hg0.set 1 _
  have hc1' : W2.cell? ⟨W1.heap.size, 1, none⟩ = some (.int .i64 ((k : Int) + 1)) := HT2.cells.1.2
  clear HT2 h hr0
  by_cases hk4 : 4096 < k + 1
  · have t1 : (4096 : Int) < (k : Int) + 1 := by omega
    go_enter Tryz.func41, Tryz.ntmps41
    go_wp2
    exact ⟨rfl, rfl, hg2⟩
  · have t1 : ¬ (4096 : Int) < (k : Int) + 1 := by omega
    have t2 : (64 : Int) < (deep : Int) := by omega
    go_enter Tryz.func41, Tryz.ntmps41
    go_wp2
    exact ⟨rfl, rfl, hg2⟩
theorem value_v {W1 : World} (htab : LTabs W1) : ∀ f deep r k W, 64 < f + deep → deep ≤ 65 → TD W1 r k W → Asc r → r.length ≤ 140737488355328 → k ≤ 4096 → Calls Tryz.prog 41 #[rp W1, .int .i64 (deep : Nat)] W (PostV2 W1 W (FT ShV W.heap.size) (k + 1) (valueV f deep r k))
  | 0, deep, r, k, W, h1, h2, h3, h4, h5, h6 => value_past deep (by omega) h2 h3 h6
  | f + 1, deep, r, k, W, h1, h2, h3, h4, h5, h6 => value_step htab f (value_v htab f) deep h1 h2 h3 h4 h5 h6
end Go.Proofs.YtdlmemalefhgmaaGreatDoor
