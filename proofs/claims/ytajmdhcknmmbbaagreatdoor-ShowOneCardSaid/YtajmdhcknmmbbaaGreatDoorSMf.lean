/-
  Walks: anew.Value of a value without parts; withoutDeeds of show.
  Conditions: what is looked at lies in memory, the attributes' values are plain.
  Walks: withoutDeeds of show, slices.Clone of nodes.
  Conditions: what is looked at lies in memory, the attributes' values are plain.
  Walks: slices.Clone of nodes.
  Conditions: what is looked at lies in memory.
  Walks: Bare of show, of nodes that may be.
  Conditions: the nodes lie in memory; each has 1073741824 attributes and as many kids at most.
-/
import Derived.Test.YtajmdhcknmmbbaaGreatDoorShX
import Derived.Test.YtajmdhcknmmbbaaGreatDoorNkAn
namespace Go.Proofs.YtajmdhcknmmbbaaGreatDoor.Sh
set_option linter.unusedVariables false
set_option linter.unusedSimpArgs false
open Go.Proofs.YtajmdhcknmmbbaaGreatDoor Go.ChangeShapes Go.WideShapes Go.RowKit Go.Deep

theorem inf_value : ∃ z, (Tryz.prog.info? 66).map (fun i => (i.zero, i.size, i.bytes)) = some (some z, 8, 112) ∧ z.cells.size = 8 := ⟨.agg #[.int .u8 0, .int .i64 0, .string ⟨#[]⟩, .slice none 0 0, .slice none 0 0, .int .u8 0, .string ⟨#[]⟩, .bool false], by kernel_rfl, rfl⟩
theorem blk8 {b : Nat} {w : World} {x0 x1 x2 x3 x4 x5 x6 x7 : Value} {ty : TypeId} (h : w.heap[b]? = some (.cells #[x0, x1, x2, x3, x4, x5, x6, x7] ty (0, 0))) :
    (w.cell? ⟨b, 0, none⟩ = some x0 ∧ w.cell? ⟨b, 1, none⟩ = some x1 ∧ w.cell? ⟨b, 2, none⟩ = some x2 ∧ w.cell? ⟨b, 3, none⟩ = some x3 ∧ w.cell? ⟨b, 4, none⟩ = some x4 ∧ w.cell? ⟨b, 5, none⟩ = some x5 ∧ w.cell? ⟨b, 6, none⟩ = some x6 ∧ w.cell? ⟨b, 7, none⟩ = some x7) ∧ w.frozen? ⟨b, 3, none⟩ = false ∧ w.frozen? ⟨b, 4, none⟩ = false :=
  ⟨⟨by rw [Lib.cell_of_heap h]; rfl, by rw [Lib.cell_of_heap h]; rfl, by rw [Lib.cell_of_heap h]; rfl, by rw [Lib.cell_of_heap h]; rfl, by rw [Lib.cell_of_heap h]; rfl, by rw [Lib.cell_of_heap h]; rfl, by rw [Lib.cell_of_heap h]; rfl, by rw [Lib.cell_of_heap h]; rfl⟩, Lib.frozen_of_heap h 3, Lib.frozen_of_heap h 4⟩

set_option maxRecDepth 100000 in
set_option maxHeartbeats 4000000 in
theorem anew_plain (k n : Int) (s : ByteArray) (la fa : Option Addr) (lc fc : Nat) (w : World) :
    Calls Tryz.prog 90 #[.agg #[.int .u8 k, .int .i64 n, .string s, .slice la 0 lc, .slice fa 0 fc, .int .u8 0, .string ⟨#[]⟩, .bool false]] w fun e w' => e = .returned (.agg #[.int .u8 k, .int .i64 n, .string s, .slice none 0 0, .slice none 0 0, .int .u8 0, .string ⟨#[]⟩, .bool false]) ∧ Below w.heap.size w w' := by
  obtain ⟨z, hz, -⟩ := inf_value
  obtain ⟨i0, hi, hz0, hz1, hz2⟩ := info_parts hz
  obtain ⟨z', hz', -⟩ := inf_field
  obtain ⟨i1, hi1, hy0, hy1, hy2⟩ := info_parts hz'
  obtain ⟨W1, hW1⟩ : ∃ W1, (w.alloc (.cells #[.int .u8 k, .int .i64 n, .string s, .slice la 0 lc, .slice fa 0 fc, .int .u8 0, .string ⟨#[]⟩, .bool false] 66)).alloc (.cells zeroV 66) = W1 := ⟨_, rfl⟩
  have hB0 : Below w.heap.size w W1 := by rw [← hW1]; exact ((Below.refl _ _).alloc (Nat.le_refl _) _).alloc (by simp) _
  have hk1 : W1.heap[w.heap.size]? = some (.cells #[.int .u8 k, .int .i64 n, .string s, .slice la 0 lc, .slice fa 0 fc, .int .u8 0, .string ⟨#[]⟩, .bool false] 66 (0, 0)) := by rw [← hW1]; exact al_old _ (al_new _ rfl)
  have hk2 : W1.heap[w.heap.size + 1]? = some (.cells zeroV 66 (0, 0)) := by rw [← hW1]; exact al_new _ (by simp)
  obtain ⟨⟨c0, c1, c2, c3, c4, c5, c6, c7⟩, f3, f4⟩ := blk8 hk1
  have HK1 := Lib.hid hk1
  have HK2 := Lib.hid hk2
  have HB0 := Lib.hid hB0
  clear hk1 hk2 hB0
  go_enter Tryz.func90, Tryz.ntmps90
  go_upto_region 1 with fail
  try rw [hW1]
  clear hW1
  go_wp2_with (at_builtin; refine wpList_append_nothing rfl _ _ _ rfl 66 i0 Tryz.underlying63 hi none 0 0 (Nat.le_refl _) rfl la lc rfl ?_)
  obtain ⟨W2, hW2⟩ : ∃ W2, W1.setCell ⟨w.heap.size, 3, none⟩ (.slice none 0 0) = W2 := ⟨_, rfl⟩
  rw [hW2]
  have HK3 : Hid (W2.heap[w.heap.size]? = some (.cells #[.int .u8 k, .int .i64 n, .string s, .slice none 0 0, .slice fa 0 fc, .int .u8 0, .string ⟨#[]⟩, .bool false] 66 (0, 0))) := Lib.hid (by rw [← hW2]; simp [World.setCell, Array.getElem?_modify, HK1.out])
  have HZ3 : Hid (W2.heap[w.heap.size + 1]? = some (.cells zeroV 66 (0, 0))) := Lib.hid (by rw [← hW2]; exact (Below.heap_setCell _ _ _ _ (by show w.heap.size + 1 ≠ w.heap.size; omega)).trans HK2.out)
  have HB2 : Hid (Below w.heap.size w W2) := Lib.hid (by rw [← hW2]; exact HB0.out.setCell (p := ⟨w.heap.size, 3, none⟩) (Nat.le_refl _) _)
  clear c0 c1 c2 c3 c4 c5 c6 c7 f3 f4 hW2
  obtain ⟨⟨c0, c1, c2, c3, c4, c5, c6, c7⟩, f3, f4⟩ := blk8 HK3.out
  go_loopw [12] (fun i wr => i = .int .i64 0 ∧ wr = W2) (fun _ _ => 0)
  case atStart => exact ⟨rfl, rfl⟩
  case round =>
    obtain ⟨rfl, rfl⟩ := hrel
    go_wp2_with (at_builtin; refine wpList_append_nothing rfl _ _ _ rfl 68 i1 Tryz.underlying56 hi1 none 0 0 (Nat.le_refl _) rfl fa fc rfl ?_)
    obtain ⟨W4, hW4⟩ : ∃ W4, wr.setCell ⟨w.heap.size, 4, none⟩ (.slice none 0 0) = W4 := ⟨_, rfl⟩
    rw [hW4]
    have HK5 : Hid (W4.heap[w.heap.size]? = some (.cells #[.int .u8 k, .int .i64 n, .string s, .slice none 0 0, .slice none 0 0, .int .u8 0, .string ⟨#[]⟩, .bool false] 66 (0, 0))) := Lib.hid (by rw [← hW4]; simp [World.setCell, Array.getElem?_modify, HK3.out])
    have HZ5 : Hid (W4.heap[w.heap.size + 1]? = some (.cells zeroV 66 (0, 0))) := Lib.hid (by rw [← hW4]; exact (Below.heap_setCell _ _ _ _ (by show w.heap.size + 1 ≠ w.heap.size; omega)).trans HZ3.out)
    have HB4 : Hid (Below w.heap.size w W4) := Lib.hid (by rw [← hW4]; exact HB2.out.setCell (p := ⟨w.heap.size, 4, none⟩) (Nat.le_refl _) _)
    clear c0 c1 c2 c3 c4 c5 c6 c7 f3 f4 hW4
    obtain ⟨⟨c0, c1, c2, c3, c4, c5, c6, c7⟩, f3, f4⟩ := blk8 HK5.out
    go_loopw [33] (fun i wr => i = .int .i64 0 ∧ wr = W4) (fun _ _ => 0)
    case atStart => exact ⟨rfl, rfl⟩
    case round =>
      obtain ⟨rfl, rfl⟩ := hrel
      rename_i wr5
      go_wp2_with (refine wpList_store_row rfl 66 _ _ rfl (w.heap.size + 1) _ rfl rfl 66 zeroV HZ5.out size_val rfl (by simp [Value.oneCell']) ?_)
      refine bodyPost_ret (results_cell_row Tryz.results90 _ _ (w.heap.size + 1) 66 _ (0, 0) _ rfl (setRow_heap _ _ _ _ _ _ HZ5.out) Tryz.underlying66 rfl size_val) rfl ?_
      exact ⟨rfl, (HB4.out.trans ((Kp.refl (fun _ => False) _).to_below HB4.out.size (fun _ _ h => h))).trans (((Kp.refl (· = w.heap.size + 1) _).row (.inr rfl) _).to_below HB4.out.size (fun i hi e => by omega))⟩
end Go.Proofs.YtajmdhcknmmbbaaGreatDoor.Sh
namespace Go.Proofs.YtajmdhcknmmbbaaGreatDoor.Sh
set_option linter.unusedVariables false
set_option linter.unusedSimpArgs false
open Go.Proofs.YtajmdhcknmmbbaaGreatDoor Go.ChangeShapes Go.WideShapes Go.RowKit Go.Deep

theorem size_field : (Tryz.prog.info? 68).map (·.size) = some 9 := by kernel_rfl
abbrev zeroF : Array Value := #[.string ⟨#[]⟩, .int .u8 0, .int .i64 0, .string ⟨#[]⟩, .slice none 0 0, .slice none 0 0, .int .u8 0, .string ⟨#[]⟩, .bool false]
theorem blk9 {b : Nat} {w : World} {x0 x1 x2 x3 x4 x5 x6 x7 x8 : Value} {ty : TypeId} (h : w.heap[b]? = some (.cells #[x0, x1, x2, x3, x4, x5, x6, x7, x8] ty (0, 0))) :
    (w.cell? ⟨b, 0, none⟩ = some x0 ∧ w.cell? ⟨b, 1, none⟩ = some x1 ∧ w.cell? ⟨b, 2, none⟩ = some x2 ∧ w.cell? ⟨b, 3, none⟩ = some x3 ∧ w.cell? ⟨b, 4, none⟩ = some x4 ∧ w.cell? ⟨b, 5, none⟩ = some x5 ∧ w.cell? ⟨b, 6, none⟩ = some x6 ∧ w.cell? ⟨b, 7, none⟩ = some x7 ∧ w.cell? ⟨b, 8, none⟩ = some x8) ∧ ∀ j, w.frozen? ⟨b, j, none⟩ = false :=
  ⟨⟨by rw [Lib.cell_of_heap h]; rfl, by rw [Lib.cell_of_heap h]; rfl, by rw [Lib.cell_of_heap h]; rfl, by rw [Lib.cell_of_heap h]; rfl, by rw [Lib.cell_of_heap h]; rfl, by rw [Lib.cell_of_heap h]; rfl, by rw [Lib.cell_of_heap h]; rfl, by rw [Lib.cell_of_heap h]; rfl, by rw [Lib.cell_of_heap h]; rfl⟩, fun j => Lib.frozen_of_heap h j⟩
theorem pv_k {p : PV} : ¬ p.k = 7 := by cases p <;> simp [PV.k]

set_option maxRecDepth 100000 in
set_option maxHeartbeats 4000000 in
theorem withoutDeeds_any (aa : Option Addr) (al ac : Nat) (an : Nat → ByteArray) (A : Nat → V) (w : World) (h : FsIn w aa al an A) (hlc : al ≤ ac ∧ ac ≤ maxLen) (hal : al ≤ 1073741824) (hp : ∀ i, i < al → (V.pv (A i)).isSome = true) :
    Calls Tryz.prog 26 #[.slice aa al ac] w fun e w' => ∃ v, e = .returned v ∧ w'.ownsRow w.heap.size 68 9 v al (aCs (aL al an A)) ∧ Below w.heap.size w w' := by
  unfold maxLen at hlc
  obtain ⟨zf, hinf, hzf⟩ := inf_field
  have H := Lib.hid h
  have HP := Lib.hid hp
  clear h hp
  go_enter Tryz.func26, Tryz.ntmps26
  go_wp2_with fail
  go_loopw [3, 8] (fun v i wr => ∃ k : Nat, k ≤ al ∧ i = .int .i64 k ∧ wr.ownsRow w.heap.size 68 9 v k (aCs (aL k an A)) ∧ Below w.heap.size w wr) (fun _ i _ => al - (intOf i).toNat)
  case atStart => exact ⟨0, Nat.zero_le _, rfl, World.ownsRow_nil _ _ _ _, Below.refl _ _⟩
  case round =>
    obtain ⟨k, hk, rfl, hown, hb⟩ := hrel
    obtain ⟨va, vc, rfl, hvc, hvm⟩ := own_slice hown
    have HO := Lib.hid hown
    have HB := Lib.hid hb
    clear hown
    by_cases hlt : k < al
    · obtain ⟨⟨b, o, rfl, hat⟩, hsz, hin⟩ := H.out k hlt
      have hat' := hat.mono fun _ ha => hb.cell ha
      obtain ⟨p, hpp⟩ := Option.isSome_iff_exists.1 (HP.out k hlt)
      have hstep : aCs (aL (k + 1) an A) = aCs (aL k an A) ++ aC ((an k).data.toList, p) := by rw [aL, aCs_snoc, hpp]; rfl
      have hnm : (⟨(an k).data.toList.toArray⟩ : ByteArray) = an k := ba_ext (by simp)
      have HST := Lib.hid hstep
      have HNM := Lib.hid hnm
      clear hat hstep hnm
      generalize hx : an k = x at hat' hsz
      generalize hv : A k = v at hat' hin hpp
      cases v with
      | leaf => exact hin.elim
      | mk vk vn vs vla vll vlc vL vfa vfl vfc vfn vF ve vkey vhk =>
      obtain ⟨a1, a2, a3, a4, a5, a6, a7, a8⟩ := pv_parts hpp
      subst a4 a5 a6 a7 a8
      have hk7 : ¬ vk = 7 := by rw [a1]; exact pv_k
      have HAC : Hid (aC ((an k).data.toList, p) = [.string x, .int .u8 vk, .int .i64 vn, .string vs, .slice none 0 0, .slice none 0 0, .int .u8 0, .string ⟨#[]⟩, .bool false]) := Lib.hid (by
        rw [aC, PV.cells, ← a1, ← a2, ← a3]
        simp only
        rw [HNM.out, hx])
      have c0 : wr.cell? ⟨b, o + k * 9, none⟩ = some (.string x) := hat' 0 (by simp)
      have c1 : wr.cell? ⟨b, o + k * 9 + 1, none⟩ = some (.int .u8 vk) := hat' 1 (by simp [V.cells])
      have c2 : wr.cell? ⟨b, o + k * 9 + 2, none⟩ = some (.int .i64 vn) := hat' 2 (by simp [V.cells])
      have c3 : wr.cell? ⟨b, o + k * 9 + 3, none⟩ = some (.string vs) := hat' 3 (by simp [V.cells])
      have c4 : wr.cell? ⟨b, o + k * 9 + 4, none⟩ = some (.slice vla 0 vlc) := hat' 4 (by simp [V.cells])
      have c5 : wr.cell? ⟨b, o + k * 9 + 5, none⟩ = some (.slice vfa 0 vfc) := hat' 5 (by simp [V.cells])
      have c6 : wr.cell? ⟨b, o + k * 9 + 6, none⟩ = some (.int .u8 0) := hat' 6 (by simp [V.cells])
      have c7 : wr.cell? ⟨b, o + k * 9 + 7, none⟩ = some (.string ⟨#[]⟩) := hat' 7 (by simp [V.cells])
      have c8 : wr.cell? ⟨b, o + k * 9 + 8, none⟩ = some (.bool false) := hat' 8 (by simp [V.cells])
      have hlt' : (k : Int) < (al : Int) := by omega
      have hs0 := hb.size
      clear hat' hin hpp a1 a2 a3 hx hv
      go_upto_region 5 with (refine wpList_store_row rfl 68 _ _ rfl wr.heap.size _ rfl rfl 68 zeroF (heap_alloc_new _ _) size_field rfl (by simp [Value.oneCell']) ?_)
      obtain ⟨fb, hfb⟩ : ∃ fb, wr.heap.size = fb := ⟨_, rfl⟩
      obtain ⟨W2, hW2⟩ : ∃ W2, ((wr.alloc (.cells zeroF 68)).setRow wr.heap.size #[.string x, .int .u8 vk, .int .i64 vn, .string vs, .slice vla 0 vlc, .slice vfa 0 vfc, .int .u8 0, .string ⟨#[]⟩, .bool false]) = W2 := ⟨_, rfl⟩
      rw [hW2, hfb]
      have hb2 : W2.heap[fb]? = some (.cells #[.string x, .int .u8 vk, .int .i64 vn, .string vs, .slice vla 0 vlc, .slice vfa 0 vfc, .int .u8 0, .string ⟨#[]⟩, .bool false] 68 (0, 0)) := by rw [← hW2, ← hfb]; exact setRow_heap _ _ _ _ _ _ (heap_alloc_new _ _)
      have HK2 : Hid (Kp (fun _ => False) wr W2) := Lib.hid (by rw [← hW2]; exact ((Kp.refl _ wr).alloc _).row (.inl (Nat.le_refl _)) _)
      have hs2 : W2.heap.size = fb + 1 := by rw [← hW2, ← hfb]; simp [World.setRow]
      clear hW2 c0 c1 c2 c3 c4 c5 c6 c7 c8
      obtain ⟨⟨d0, d1, d2, d3, d4, d5, d6, d7, d8⟩, -⟩ := blk9 hb2
      have HBK := Lib.hid hb2
      clear hb2
      have hkb : (vk == 7) = false := by simpa using hk7
      go_upto_region 7 with (go_at_call 90; (with_reducible refine (anew_plain vk vn vs vla vfa vlc vfc W2).mono ?_); rintro e3 w3 ⟨rfl, hb3⟩; have HB3 := Lib.hid hb3; obtain ⟨⟨e0, e1, e2, e3, e4, e5, e6, e7, e8⟩, ef⟩ := blk9 ((hb3.block fb (by omega)).trans HBK.out); have ef1 := ef 1; have ef2 := ef 2; have ef3 := ef 3; have ef4 := ef 4; have ef5 := ef 5; have ef6 := ef 6; have ef7 := ef 7; have ef8 := ef 8; clear ef)
      have hk3 := (hb3.block fb (by omega)).trans HBK.out
      obtain ⟨W7, hW7⟩ : ∃ W7, ((((((((w3.setCell ⟨fb, 1, none⟩ (.int .u8 vk)).setCell ⟨fb, 2, none⟩ (.int .i64 vn)).setCell ⟨fb, 3, none⟩ (.string vs)).setCell ⟨fb, 4, none⟩ (.slice none 0 0)).setCell ⟨fb, 5, none⟩ (.slice none 0 0)).setCell ⟨fb, 6, none⟩ (.int .u8 0)).setCell ⟨fb, 7, none⟩ (.string ⟨#[]⟩)).setCell ⟨fb, 8, none⟩ (.bool false)) = W7 := ⟨_, rfl⟩
      rw [hW7]
      have hk7 : W7.heap[fb]? = some (.cells #[.string x, .int .u8 vk, .int .i64 vn, .string vs, .slice none 0 0, .slice none 0 0, .int .u8 0, .string ⟨#[]⟩, .bool false] 68 (0, 0)) := by rw [← hW7]; simp [World.setCell, Array.getElem?_modify, hk3]
      have hfw : ∀ (a : World), Kp (fun _ => False) wr a → ∀ q v, Kp (fun _ => False) wr (a.setCell ⟨fb, q, none⟩ v) := fun a ha q v => ha.set (.inl (by omega)) q v
      have HK7 : Hid (Kp (fun _ => False) wr W7) := Lib.hid (by rw [← hW7]; exact hfw _ (hfw _ (hfw _ (hfw _ (hfw _ (hfw _ (hfw _ (hfw _ (HK2.out.below hb3) _ _) _ _) _ _) _ _) _ _) _ _) _ _) _ _)
      clear hW7 e0 e1 e2 e3 e4 e5 e6 e7 e8 ef1 ef2 ef3 ef4 ef5 ef6 ef7 ef8 hfw d0 d1 d2 d3 d4 d5 d6 d7 d8
      obtain ⟨⟨d0, d1, d2, d3, d4, d5, d6, d7, d8⟩, -⟩ := blk9 hk7
      have HO7 := Lib.hid (own_kp HO.out HK7.out (fun i hi h => h))
      have hs7 : w.heap.size ≤ W7.heap.size := Nat.le_trans hs0 HK7.out.size
      clear hk3 hk7
      go_wp2_with (refine app_one (vs := [.string x, .int .u8 vk, .int .i64 vn, .string vs, .slice none 0 0, .slice none 0 0, .int .u8 0, .string ⟨#[]⟩, .bool false]) Tryz.underlying56 hinf hzf (by decide) (by decide) HO7.out hs7 (by omega) rfl (by simp [Value.oneCell']) rfl _ _ rfl rfl rfl ?_; intro v8 w8 hf8 hg8 ho8)
      go_roundw
      case rel =>
        refine ⟨k + 1, by omega, by go_num, ?_, ?_⟩
        · rw [HST.out, HAC.out]; exact hf8
        · exact HB.out.trans (HK7.out.to_below hs0 (fun _ _ h => h)) |>.grown hg8 hs7 (fun g e => (HO7.out.lt g e).1)
      case measure => simp [intOf]; omega
    · obtain rfl : k = al := by omega
      go_wp2_with fail
      go_ret
      exact ⟨_, rfl, HO.out, HB.out⟩
end Go.Proofs.YtajmdhcknmmbbaaGreatDoor.Sh
namespace Go.Proofs.YtajmdhcknmmbbaaGreatDoor.Sh
set_option linter.unusedVariables false
set_option linter.unusedSimpArgs false
open Go.Proofs.YtajmdhcknmmbbaaGreatDoor Go.ChangeShapes Go.WideShapes Go.RowKit Go.Deep

/-- The cells of nodes, one list each. -/
def rowsN (n : Nat) (K : Nat → N) : List (List Value) := (List.range n).map fun i => (K i).cells
theorem cells5 {w : World} {x : N} (h : x.In w) : x.cells.length = 5 := by
  cases x with
  | leaf => exact h.elim
  | mk => rfl
theorem flat5_len : ∀ (vss : List (List Value)), (∀ x ∈ vss, x.length = 5) → vss.flatten.length = vss.length * 5
  | [], _ => rfl
  | x :: l, h => by
    have := flat5_len l fun y hy => h y (List.mem_cons_of_mem _ hy)
    have hx := h x (List.mem_cons_self ..)
    rw [List.flatten_cons, List.length_append, this, hx, List.length_cons]; omega
theorem flat5_get : ∀ (vss : List (List Value)), (∀ x ∈ vss, x.length = 5) → ∀ (i j : Nat) (x : List Value), vss[i]? = some x → j < 5 → vss.flatten[i * 5 + j]? = x[j]?
  | [], _, i, _, _, h, _ => by simp at h
  | y :: l, hl, 0, j, x, h, hj => by
    simp at h; subst h
    have hy := hl y (List.mem_cons_self ..)
    rw [List.flatten_cons, Nat.zero_mul, Nat.zero_add, List.getElem?_append_left (by omega)]
  | y :: l, hl, i + 1, j, x, h, hj => by
    have hy := hl y (List.mem_cons_self ..)
    rw [List.flatten_cons, List.getElem?_append_right (by omega), hy, ← flat5_get l (fun z hz => hl z (List.mem_cons_of_mem _ hz)) i j x (by simpa using h) hj]
    congr 1
    omega
theorem flat5_set : ∀ (vss : List (List Value)), (∀ x ∈ vss, x.length = 5) → ∀ (i j : Nat) (x : List Value) (u : Value), vss[i]? = some x → j < 5 → vss.flatten.set (i * 5 + j) u = (vss.set i (x.set j u)).flatten
  | [], _, i, _, _, _, h, _ => by simp at h
  | y :: l, hl, 0, j, x, u, h, hj => by
    simp at h; subst h
    have hy := hl y (List.mem_cons_self ..)
    rw [List.flatten_cons, Nat.zero_mul, Nat.zero_add, List.set_append_left _ _ (by omega)]
    rfl
  | y :: l, hl, i + 1, j, x, u, h, hj => by
    have hy := hl y (List.mem_cons_self ..)
    rw [List.flatten_cons, List.set_append_right _ _ (by omega), hy, show (i + 1) * 5 + j - 5 = i * 5 + j by omega, flat5_set l (fun z hz => hl z (List.mem_cons_of_mem _ hz)) i j x u (by simpa using h) hj]
    rfl
theorem rowsN_get {n i : Nat} {K : Nat → N} (h : i < n) : (rowsN n K)[i]? = some (K i).cells := by
  rw [rowsN, List.getElem?_map, List.getElem?_range h]; rfl
theorem rowsN_len (n : Nat) (K : Nat → N) : (rowsN n K).length = n := by simp [rowsN]
theorem rowsN_five {w : World} {a : Option Addr} {n : Nat} {K : Nat → N} (h : NsIn w a n K) : ∀ x ∈ rowsN n K, x.length = 5 := by
  intro x hx
  rw [rowsN, List.mem_map] at hx
  obtain ⟨i, hi, rfl⟩ := hx
  exact cells5 (h i (List.mem_range.1 hi)).2

theorem nodes_eqlN (w : World) (d : Nat) (a : Option Addr) (l c : Nat) : (Op.equalIn (d + 1) 22 (.slice a l c) (.slice none 0 0)).run Tryz.prog w = .ok a.isNone w := by
  cases a <;> simp [Op.equalIn, run_underlying Tryz.underlying22]
theorem nodes_eqlE (w : World) (a : Option Addr) (l c : Nat) : (Op.equal 22 (.slice a l c) (.slice none 0 0)).run Tryz.prog w = .ok a.isNone w := nodes_eqlN w 9999 a l c
theorem nodes_eql (w : World) (a : Option Addr) (l c : Nat) : (binOp .eql 22 (.slice a l c) (.slice none 0 0)).run Tryz.prog w = .ok (.bool a.isNone) w := by
  simp [binOp, nodes_eqlE w a l c]
set_option maxRecDepth 100000 in
set_option maxHeartbeats 4000000 in
theorem clone_any (a : Option Addr) (n c : Nat) (K : Nat → N) (w : World) (h : NsIn w a n K) (hlc : n ≤ c ∧ c ≤ maxLen) (hn : n ≤ 1073741824) :
    Calls Tryz.prog 25 #[.slice a n c] w fun e w' => ∃ v, e = .returned v ∧ w'.ownsRow w.heap.size 58 5 v n (rowsN n K).flatten ∧ Below w.heap.size w w' := by
  obtain ⟨i0, hi, hz0, hz1, hz2⟩ := info_parts inf_node
  cases a with
  | none =>
    have hn0 : n = 0 := by
      rcases Nat.eq_zero_or_pos n with h0 | h0
      · exact h0
      · obtain ⟨⟨b, o, e, -⟩, -⟩ := h 0 h0; cases e
    subst hn0
    have hE := nodes_eql w none 0 c
    go_enter Tryz.func25, Tryz.ntmps25
    go_wp2_with fail
    go_ret
    exact ⟨_, rfl, World.ownsRow_nil _ _ _ _, Below.refl _ _⟩
  | some ad =>
    have hE := nodes_eql w (some ad) n c
    go_enter Tryz.func25, Tryz.ntmps25
    go_upto_region 3 with fail
    by_cases h0 : n = 0
    · subst h0
      go_wp2_with (at_builtin; refine wpList_append_nothing rfl _ _ _ rfl 58 i0 Tryz.underlying22 hi (some ⟨w.heap.size, 0, none⟩) 0 0 (Nat.le_refl _) rfl (some ad) c rfl ?_)
      go_ret
      exact ⟨_, rfl, ⟨by simp [rowsN], .inr ⟨w.heap.size, 0, #[], rfl, Nat.le_refl _, heap_alloc_new _ _, Nat.le_refl _, Nat.zero_le _, rfl, by simp [rowsN]⟩⟩, (Below.refl _ _).alloc (Nat.le_refl _) _⟩
    · obtain ⟨⟨b, o, e, -⟩, -⟩ := h 0 (by omega)
      injection e with e
      subst e
      have h5 := rowsN_five h
      have hfl : (rowsN n K).flatten.length = n * 5 := by rw [flat5_len _ h5, rowsN_len]
      have hba : Below w.heap.size w (w.alloc (.cells #[] 58)) := (Below.refl _ _).alloc (Nat.le_refl _) _
      have hnews : ∀ j u, (rowsN n K).flatten[j]? = some u → (w.alloc (.cells #[] 58)).cell? ((⟨b, o, none⟩ : Addr).add j) = some u := fun j u hu => by
        have hj : j < n * 5 := by rw [← hfl]; exact (List.getElem?_eq_some_iff.1 hu).1
        have hd : j / 5 < n := by omega
        have hg := flat5_get _ h5 (j / 5) (j % 5) _ (rowsN_get (K := K) hd) (Nat.mod_lt _ (by decide))
        rw [show j / 5 * 5 + j % 5 = j by omega, hu] at hg
        obtain ⟨⟨b', o', e, hat⟩, hin⟩ := h (j / 5) hd
        simp only [Option.some.injEq, Addr.mk.injEq, and_true] at e
        obtain ⟨rfl, rfl⟩ := e
        have := (hat.mono (w' := w.alloc (.cells #[] 58)) fun _ ha => hba.cell ha) (j % 5) (by rw [cells5 hin]; exact Nat.mod_lt _ (by decide))
        rw [add_plain, ← hg] at *
        rw [show o + j = o + j / 5 * 5 + j % 5 by omega]
        exact this
      have hone : ∀ u ∈ (rowsN n K).flatten, u.oneCell' = true := fun u hu => by
        obtain ⟨x, hx, hux⟩ := List.mem_flatten.1 hu
        rw [rowsN, List.mem_map] at hx
        obtain ⟨i, hi', rfl⟩ := hx
        cases hK : K i with
        | leaf => rw [hK] at hux; cases hux
        | mk => rw [hK] at hux; simp [N.cells] at hux; rcases hux with rfl | rfl | rfl | rfl | rfl <;> rfl
      have hown : (w.alloc (.cells #[] 58)).ownsRow w.heap.size 58 5 (.slice (some ⟨w.heap.size, 0, none⟩) 0 0) 0 [] := ⟨rfl, .inr ⟨w.heap.size, 0, #[], rfl, Nat.le_refl _, heap_alloc_new _ _, Nat.le_refl _, Nat.zero_le _, rfl, rfl⟩⟩
      obtain ⟨news, hnw⟩ : ∃ x, (rowsN n K).flatten = x := ⟨_, rfl⟩
      rw [hnw] at hfl hnews hone
      have HNW := Lib.hid hnw
      clear hnw
      go_wp2_with (at_builtin; refine wpList_append_own _ rfl _ _ _ rfl w.heap.size 58 i0 (.agg zeroN) 5 88 Tryz.underlying22 hi hz0 hz1 hz2 rfl (by decide) _ 0 [] rfl hown ⟨b, o, none⟩ n c news rfl hfl hnews hone (by unfold maxLen; omega) (by omega) hba.size ?_; intro v' w' hv' hg' _)
      go_ret
      rw [Nat.zero_add, List.nil_append] at hv'
      exact ⟨_, rfl, by rw [HNW.out]; exact hv', hba.grown hg' hba.size (fun k e => by injection e with e; exact Nat.le_of_eq e)⟩
end Go.Proofs.YtajmdhcknmmbbaaGreatDoor.Sh
namespace Go.Proofs.YtajmdhcknmmbbaaGreatDoor.Sh
set_option linter.unusedVariables false
set_option linter.unusedSimpArgs false
open Go.Proofs.YtajmdhcknmmbbaaGreatDoor Go.ChangeShapes Go.WideShapes Go.RowKit Go.Deep

/-- Few enough for rows of their own. -/
def N.few : N → Prop
  | .leaf => True
  | .mk _ _ _ _ al _ _ _ _ kl _ K => al ≤ 1073741824 ∧ kl ≤ 1073741824 ∧ ∀ i, i < kl → (K i).few
theorem con_one (n : N) (hm : n.may = true) (d : D) : n.con d = (n.con .nil).app d := by
  cases n with
  | leaf => cases hm
  | mk id tag text aa al ac an A ka kl kc K => simp only [N.con]; split <;> rfl
theorem conTo_one (K : Nat → N) : ∀ (n : Nat) (e : D), (∀ i, i < n → (K i).may = true) → conTo n (fun i => (K i).con) e = (conTo n (fun i => (K i).con) .nil).app e
  | 0, e, _ => rfl
  | n + 1, e, h => by
    rw [conTo, conTo_one K n _ (fun i hi => h i (by omega)), con_one _ (h n (by omega)), ← D.app_assoc, ← conTo_one K n _ (fun i hi => h i (by omega))]
    rfl
theorem rep_each {W : World} {ok : Nat → Prop} (K : Nat → N) (vss : List (List Value)) : ∀ (n : Nat), (∀ i, i < n → (K i).may = true) → (∀ i, i < n → ∃ vs, vss[i]? = some vs ∧ DRep W ok ((K i).con .nil) [vs]) → DRep W ok (conTo n (fun i => (K i).con) .nil) (vss.take n)
  | 0, _, _ => by rw [List.take_zero]; exact rfl
  | n + 1, hm, h => by
    obtain ⟨vs, hv, hr⟩ := h n (by omega)
    have ih := rep_each K vss n (fun i hi => hm i (by omega)) (fun i hi => h i (by omega))
    have hlt := (List.getElem?_eq_some_iff.1 hv).1
    rw [conTo, conTo_one K n _ (fun i hi => hm i (by omega)), List.take_add_one, hv]
    exact ih.app hr
theorem set_five {vss : List (List Value)} (h : ∀ x ∈ vss, x.length = 5) {i : Nat} {x : List Value} (hx : x.length = 5) : ∀ y ∈ vss.set i x, y.length = 5 := fun y hy => by
  rcases List.mem_or_eq_of_mem_set hy with hy | rfl
  · exact h y hy
  · exact hx

/-- Bare under way: m nodes are done. -/
structure BS (w : World) (n : Nat) (K : Nat → N) (v : Value) (m : Nat) (vss : List (List Value)) (wr : World) : Prop where
  own : wr.ownsRow w.heap.size 58 5 v n vss.flatten
  len : vss.length = n
  five : ∀ x ∈ vss, x.length = 5
  done : ∀ i, i < m → ∃ vs, vss[i]? = some vs ∧ DRep wr (fun b => w.heap.size ≤ b ∧ v.ownBlock ≠ some b) ((K i).con .nil) [vs]
  rest : ∀ i, m ≤ i → i < n → vss[i]? = some (K i).cells
  low : Below w.heap.size w wr
/-- What Bare's contract says of a node's kids. -/
def KidsBare : N → Prop
  | .leaf => True
  | .mk _ _ _ _ _ _ _ _ ka kl kc K => ∀ (w : World), NsIn w ka kl K → (kl ≤ kc ∧ kc ≤ maxLen) → kl ≤ 1073741824 → (∀ i, i < kl → (K i).may = true ∧ (K i).few) →
      Calls Tryz.prog 12 #[.slice ka kl kc] w fun e w' => ∃ v vss, e = .returned v ∧ vss.length = kl ∧ w'.ownsRow w.heap.size 58 5 v kl vss.flatten ∧ DRep w' (fun b => w.heap.size ≤ b ∧ v.ownBlock ≠ some b) (conTo kl (fun i => (K i).con) .nil) vss ∧ Below w.heap.size w w'
theorem own_get {W : World} {B n g c : Nat} {vss : List (List Value)} (h : W.ownsRow B 58 5 (.slice (some ⟨g, 0, none⟩) n c) n vss.flatten) (h5 : ∀ x ∈ vss, x.length = 5) {m j : Nat} {x : List Value} (hm : vss[m]? = some x) (hj : j < 5) (u : Value) (hu : x[j]? = some u) : W.cell? ⟨g, m * 5 + j, none⟩ = some u ∧ W.frozen? ⟨g, m * 5 + j, none⟩ = false := by
  constructor
  · have := h.cells (g := g) rfl (m * 5 + j) u (by rw [flat5_get vss h5 m j x hm hj]; exact hu)
    rwa [add_plain, Nat.zero_add] at this
  · rcases h.2 with ⟨e, -⟩ | ⟨g', cap, cur, e, -, hg, -⟩
    · cases e
    · injection e with e1 _ _
      injection e1 with e1
      injection e1 with e1 _ _
      subst e1
      exact Lib.frozen_of_heap hg _
theorem own_put {W : World} {B n g c : Nat} {vss : List (List Value)} (h : W.ownsRow B 58 5 (.slice (some ⟨g, 0, none⟩) n c) n vss.flatten) (h5 : ∀ x ∈ vss, x.length = 5) (hl : vss.length = n) {m j : Nat} {x : List Value} (hm : vss[m]? = some x) (hj : j < 5) (u : Value) :
    (W.setCell ⟨g, m * 5 + j, none⟩ u).ownsRow B 58 5 (.slice (some ⟨g, 0, none⟩) n c) n (vss.set m (x.set j u)).flatten := by
  have hlt := (List.getElem?_eq_some_iff.1 hm).1
  rw [← flat5_set vss h5 m j x u hm hj]
  exact own_set1 h (by omega)

set_option maxRecDepth 100000 in
set_option maxHeartbeats 8000000 in
theorem bare_list (a : Option Addr) (n c : Nat) (K : Nat → N) (ih : ∀ i, KidsBare (K i)) (w : World) (h : NsIn w a n K) (hlc : n ≤ c ∧ c ≤ maxLen) (hn : n ≤ 1073741824) (hm : ∀ i, i < n → (K i).may = true ∧ (K i).few) :
    Calls Tryz.prog 12 #[.slice a n c] w fun e w' => ∃ v vss, e = .returned v ∧ vss.length = n ∧ w'.ownsRow w.heap.size 58 5 v n vss.flatten ∧ DRep w' (fun b => w.heap.size ≤ b ∧ v.ownBlock ≠ some b) (conTo n (fun i => (K i).con) .nil) vss ∧ Below w.heap.size w w' := by
  have HCL := Lib.hid (clone_any a n c K w h hlc hn)
  have h5 := Lib.hid (rowsN_five h)
  have H := Lib.hid h
  have HM := Lib.hid hm
  have HI := Lib.hid ih
  unfold maxLen at hlc
  clear h hm ih
  go_enter Tryz.func12, Tryz.ntmps12
  go_wp2_with (go_at_call 25; (with_reducible refine HCL.out.mono ?_); rintro e1 w1 ⟨v1, rfl, ho1, hb1⟩; have HO1 := Lib.hid ho1; have HB1 := Lib.hid hb1; obtain ⟨va, vc, rfl, hvc, hvm⟩ := own_slice ho1; clear ho1 hb1)
  go_loopw [10] (fun i wr => ∃ (m : Nat) (vss : List (List Value)), m ≤ n ∧ i = .int .i64 m ∧ BS w n K (.slice va n vc) m vss wr) (fun i _ => n - (intOf i).toNat)
  case atStart => exact ⟨0, rowsN n K, Nat.zero_le _, rfl, HO1.out, rowsN_len n K, h5.out, fun i hi => by omega, fun i _ hi => rowsN_get hi, HB1.out⟩
  case round =>
    obtain ⟨m, vss, hmn, rfl, hbs⟩ := hrel
    have HS := Lib.hid hbs
    clear hbs
    by_cases hlt : m < n
    · obtain ⟨⟨b0, o0, -, -⟩, hin⟩ := H.out m hlt
      obtain ⟨hmay, hfew⟩ := HM.out m hlt
      have hbare := HI.out m
      have hrest := HS.out.rest m (Nat.le_refl _) hlt
      have HCN : Hid (∃ y, y = (K m).con .nil) := Lib.hid ⟨_, rfl⟩
      have hDM := HS.out.done
      obtain ⟨g, rfl⟩ : ∃ g, va = some ⟨g, 0, none⟩ := by
        rcases HS.out.own.2 with ⟨e, h0⟩ | ⟨g, cap, cur, e, -⟩
        · omega
        · injection e with e; exact ⟨g, e⟩
      obtain ⟨hg1, hg2⟩ := HS.out.own.lt g rfl
      generalize hx : K m = x at hin hmay hfew hbare hrest HCN
      cases x with
      | leaf => exact hin.elim
      | mk id tag text aa al ac an A ka kl kc K' =>
      have HX := Lib.hid hx
      clear hx
      have hin1 := hin.below HS.out.low
      obtain ⟨-, q2, q3, q4, q5, qA, qK⟩ := hin1
      obtain ⟨r1, r2, r3⟩ := hfew
      have hmay2 := hmay
      simp only [N.may, Bool.and_eq_true, Bool.or_eq_true] at hmay2
      have hpl : ∀ i, i < al → (V.pv (A i)).isSome = true := fun i hi => by
        rcases hmay2.1 with q | q
        · simp only [textB, Bool.and_eq_true, decide_eq_true_eq] at q; omega
        · simp only [hostB, Bool.and_eq_true] at q
          have := allB_true.1 q.2.2 i hi
          simp only [aOk, Bool.and_eq_true] at this
          exact this.2.2
      have c0 := own_get HS.out.own HS.out.five hrest (j := 0) (by decide) (.int .i64 id) rfl
      rw [Nat.add_zero] at c0
      obtain ⟨c0, f0⟩ := c0
      have hlt' : (m : Int) < (n : Int) := by omega
      have hs0 := HS.out.low.size
      go_upto_region 7 with fail
      obtain ⟨W2, hW2⟩ : ∃ W2, wr.setCell ⟨g, m * 5, none⟩ (.int .i64 0) = W2 := ⟨_, rfl⟩
      rw [hW2]
      have ho2 : W2.ownsRow w.heap.size 58 5 (.slice (some ⟨g, 0, none⟩) n vc) n (vss.set m [.int .i64 0, .string tag, .string text, .slice aa al ac, .slice ka kl kc]).flatten := by
        have := own_put HS.out.own HS.out.five HS.out.len hrest (j := 0) (by decide) (.int .i64 0)
        rw [Nat.add_zero, hW2] at this
        exact this
      have hf2 := set_five HS.out.five (i := m) (x := [.int .i64 0, .string tag, .string text, .slice aa al ac, .slice ka kl kc]) rfl
      have hm2 : (vss.set m [.int .i64 0, .string tag, .string text, .slice aa al ac, .slice ka kl kc])[m]? = some [.int .i64 0, .string tag, .string text, .slice aa al ac, .slice ka kl kc] := by
        rw [List.getElem?_set_self (by rw [HS.out.len]; exact hlt)]
      have hl2 : (vss.set m [.int .i64 0, .string tag, .string text, .slice aa al ac, .slice ka kl kc]).length = n := by rw [List.length_set]; exact HS.out.len
      have hk2 : Kp (fun i => i = g) wr W2 := by rw [← hW2]; exact Kp.set (X := fun i => i = g) (Kp.refl _ _) (.inr rfl) _ _
      have hb2 : Below w.heap.size w W2 := HS.out.low.trans (hk2.to_below hs0 (fun i hi e => by omega))
      have hin2 : (N.mk id tag text aa al ac an A ka kl kc K').In W2 := hin.below hb2
      obtain ⟨-, -, -, -, -, qA2, -⟩ := hin2
      have hz2 : W2.heap.size = wr.heap.size := by rw [← hW2]; simp [World.setCell]
      have HWD := Lib.hid (withoutDeeds_any aa al ac an A W2 qA2 q4 r1 hpl)
      have HO2 := Lib.hid ho2
      have HF2 := Lib.hid hf2
      have HM2 := Lib.hid hm2
      have HL2 := Lib.hid hl2
      clear hW2 ho2 hf2 hl2 c0 f0 qA qA2
      have c3 := own_get HO2.out HF2.out HM2.out (j := 3) (by decide) (.slice aa al ac) rfl
      obtain ⟨c3, f3⟩ := c3
      clear hm2
      go_upto_region 8 with (go_at_call 26; (with_reducible refine HWD.out.mono ?_); rintro e3 w3 ⟨v3, rfl, ho3, hb3⟩; have HO3 := Lib.hid ho3; obtain ⟨a3, c3', rfl, hc3, hm3⟩ := own_slice ho3; have HB3 := Lib.hid hb3; have HO2' := Lib.hid (own_kp HO2.out (Kp.of_below (X := fun _ => False) hb3) (fun i hi h => h)); obtain ⟨d3, g3⟩ := own_get HO2'.out HF2.out HM2.out (j := 3) (by decide) (.slice aa al ac) rfl)
      have hs3 := HB3.out.size
      obtain ⟨W4, hW4⟩ : ∃ W4, w3.setCell ⟨g, m * 5 + 3, none⟩ (.slice a3 al c3') = W4 := ⟨_, rfl⟩
      rw [hW4]
      have ho4 : W4.ownsRow w.heap.size 58 5 (.slice (some ⟨g, 0, none⟩) n vc) n (vss.set m [.int .i64 0, .string tag, .string text, .slice a3 al c3', .slice ka kl kc]).flatten := by
        have := own_put HO2'.out HF2.out HL2.out HM2.out (j := 3) (by decide) (.slice a3 al c3')
        rw [hW4, List.set_set] at this
        exact this
      have hf4 := set_five HS.out.five (i := m) (x := [.int .i64 0, .string tag, .string text, .slice a3 al c3', .slice ka kl kc]) rfl
      have hm4 : (vss.set m [.int .i64 0, .string tag, .string text, .slice a3 al c3', .slice ka kl kc])[m]? = some [.int .i64 0, .string tag, .string text, .slice a3 al c3', .slice ka kl kc] := by
        rw [List.getElem?_set_self (by rw [HS.out.len]; exact hlt)]
      have hl4 : (vss.set m [.int .i64 0, .string tag, .string text, .slice a3 al c3', .slice ka kl kc]).length = n := by rw [List.length_set]; exact HS.out.len
      have hk34 : Kp (fun i => i = g) w3 W4 := by rw [← hW4]; exact Kp.set (X := fun i => i = g) (Kp.refl _ _) (.inr rfl) _ _
      have hk4 : Kp (fun i => i = g) wr W4 := (hk2.below HB3.out).trans hk34
      have hz4 : W4.heap.size = w3.heap.size := by rw [← hW4]; simp [World.setCell]
      have hb4 : Below w.heap.size w W4 := HS.out.low.trans (hk4.to_below hs0 (fun i hi e => by omega))
      have hin4 : (N.mk id tag text aa al ac an A ka kl kc K').In W4 := hin.below hb4
      obtain ⟨-, -, -, -, -, -, qK4⟩ := hin4
      have HBR := Lib.hid (hbare W4 qK4 q5 r2 (fun i hi => ⟨allB_true.1 hmay2.2 i hi, r3 i hi⟩))
      have HO4 := Lib.hid ho4
      have HF4 := Lib.hid hf4
      have HM4 := Lib.hid hm4
      have HL4 := Lib.hid hl4
      clear hW4 ho4 hf4 hl4 d3 g3 c3 f3 qK qK4 hm4
      obtain ⟨c4, f4⟩ := own_get HO4.out HF4.out HM4.out (j := 4) (by decide) (.slice ka kl kc) rfl
      go_wp2_with (go_at_call 12; (with_reducible refine HBR.out.mono ?_); rintro e5 w5 ⟨v5, vss5, rfl, hl5, ho5, hr5, hb5⟩; have HO5 := Lib.hid ho5; obtain ⟨a5, c5, rfl, hc5, hm5⟩ := own_slice ho5; have HR5 := Lib.hid hr5; have HB5 := Lib.hid hb5; have HO4' := Lib.hid (own_kp HO4.out (Kp.of_below (X := fun _ => False) hb5) (fun i hi h => h)); obtain ⟨d4, g4⟩ := own_get HO4'.out HF4.out HM4.out (j := 4) (by decide) (.slice ka kl kc) rfl)
      have hs5 := HB5.out.size
      go_roundw
      case rel =>
        have hk6 : Kp (fun i => i = g) wr (w5.setCell ⟨g, m * 5 + 4, none⟩ (.slice a5 kl c5)) := (hk4.below HB5.out).set (.inr rfl) _ _
        have hk56 : Kp (fun i => i = g) w5 (w5.setCell ⟨g, m * 5 + 4, none⟩ (.slice a5 kl c5)) := Kp.set (X := fun i => i = g) (Kp.refl _ _) (.inr rfl) _ _
        have hk46 := (Kp.of_below (X := fun i => i = g) HB5.out).trans hk56
        have hk36 := hk34.trans hk46
        have ho6 : (w5.setCell ⟨g, m * 5 + 4, none⟩ (.slice a5 kl c5)).ownsRow w.heap.size 58 5 (.slice (some ⟨g, 0, none⟩) n vc) n (vss.set m [.int .i64 0, .string tag, .string text, .slice a3 al c3', .slice a5 kl c5]).flatten := by
          have := own_put HO4'.out HF4.out HL4.out HM4.out (j := 4) (by decide) (.slice a5 kl c5)
          rw [List.set_set] at this
          exact this
        refine ⟨m + 1, vss.set m [.int .i64 0, .string tag, .string text, .slice a3 al c3', .slice a5 kl c5], by omega, by go_num, ho6, by rw [List.length_set]; exact HS.out.len, set_five HS.out.five rfl, fun i hi => ?_, fun i h1 h2 => ?_, HS.out.low.trans (hk6.to_below hs0 (fun i hi e => by omega))⟩
        · rcases Nat.lt_or_ge i m with h1 | h1
          · obtain ⟨vs, e1, e2⟩ := HS.out.done i h1
            refine ⟨vs, by rw [List.getElem?_set_ne (by omega)]; exact e1, e2.keep hk6.size fun b hb hok => ⟨hok, hk6.block b hb (fun e => hok.2 (by rw [e]; rfl))⟩⟩
          · obtain rfl : i = m := by omega
            refine ⟨_, by rw [List.getElem?_set_self (by rw [HS.out.len]; exact hlt)], ?_⟩
            rw [HX.out]
            have emp : ∀ b : ByteArray, (b.toList == []) = true → b = ⟨#[]⟩ := fun b hb => by
              rw [Lib.toList_data] at hb
              exact ba_ext (by simpa using hb)
            have hgo : ∀ b, W2.heap.size ≤ b → w.heap.size ≤ b ∧ (Value.slice (some ⟨g, 0, none⟩) n vc).ownBlock ≠ some b := fun b hb => ⟨by omega, fun e => by injection e with e; have e : g = b := e; omega⟩
            simp only [N.con]
            split
            · rename_i ht
              have hp0 : al = 0 ∧ kl = 0 := by
                rcases hmay2.1 with q | q
                · simp only [textB, Bool.and_eq_true, decide_eq_true_eq] at q; exact q.2.2
                · simp [hostB, nameB, ht] at q
              obtain ⟨rfl, rfl⟩ := hp0
              rw [emp _ ht]
              refine ⟨a3, c3', a5, c5, [], ?_, ⟨hm3, hm5⟩, rfl⟩
              rw [show (⟨text.data.toList.toArray⟩ : ByteArray) = text from ba_ext (by simp)]
            · rename_i ht
              have hh : hostB tag text al an A = true := by
                rcases hmay2.1 with q | q
                · simp [textB, ht] at q
                · exact q
              simp only [hostB, Bool.and_eq_true] at hh
              rw [emp _ hh.2.1]
              refine ⟨.slice a3 al c3', .slice a5 kl c5, vss5, [], ?_, ?_, ?_, ?_, rfl⟩
              · rw [show (⟨tag.data.toList.toArray⟩ : ByteArray) = tag from ba_ext (by simp)]
              · rw [(aL_get al).1]
                exact (Sl.of_own HO3.out).keep hk36.size fun b hb hok => ⟨hgo b (by omega), hk36.block b hb (by have := hok.1; omega)⟩
              · rw [hl5]
                exact (Sl.of_own HO5.out).keep hk56.size fun b hb hok => ⟨hgo b (by have := hok.1; omega), hk56.block b hb (by have := hok.1; omega)⟩
              · exact HR5.out.keep hk56.size fun b hb hok => ⟨hgo b (by have := hok.1; omega), hk56.block b hb (by have := hok.1; omega)⟩
        · rw [List.getElem?_set_ne (by omega)]
          exact HS.out.rest i (by omega) h2
      case measure => simp [intOf]; omega
    · obtain rfl : m = n := by omega
      go_wp2_with fail
      go_ret
      refine ⟨_, vss, rfl, HS.out.len, HS.out.own, ?_, HS.out.low⟩
      have := rep_each K vss m (fun i hi => (HM.out i hi).1) HS.out.done
      rwa [List.take_of_length_le (by rw [HS.out.len]; exact Nat.le_refl _)] at this
theorem kids_bare : ∀ n : N, KidsBare n := by
  intro n
  induction n with
  | leaf => trivial
  | mk id tag text aa al ac an A ka kl kc K ih => exact fun w h hlc hn hm => bare_list ka kl kc K ih w h hlc hn hm
theorem bare_any (a : Option Addr) (n c : Nat) (K : Nat → N) (w : World) (h : NsIn w a n K) (hlc : n ≤ c ∧ c ≤ maxLen) (hn : n ≤ 1073741824) (hm : ∀ i, i < n → (K i).may = true ∧ (K i).few) :
    Calls Tryz.prog 12 #[.slice a n c] w fun e w' => ∃ v vss, e = .returned v ∧ vss.length = n ∧ w'.ownsRow w.heap.size 58 5 v n vss.flatten ∧ DRep w' (fun b => w.heap.size ≤ b ∧ v.ownBlock ≠ some b) (conTo n (fun i => (K i).con) .nil) vss ∧ Below w.heap.size w w' :=
  bare_list a n c K (fun i => kids_bare (K i)) w h hlc hn hm
end Go.Proofs.YtajmdhcknmmbbaaGreatDoor.Sh
