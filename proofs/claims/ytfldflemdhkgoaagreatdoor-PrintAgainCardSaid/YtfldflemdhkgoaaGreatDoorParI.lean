/-
  Walks: site.
  Conditions: the reader lies as 'RD' says; its words are at most 65536; the component's name is no longer than a text.
-/
import Derived.Test.YtfldflemdhkgoaaGreatDoorParE
import Derived.Test.YtfldflemdhkgoaaGreatDoorShelfI
import Derived.Lib.ItoaLen
import Derived.Deep.RegionHeld3
import Derived.Lib.AppendIntMem
namespace Go.Proofs.YtfldflemdhkgoaaGreatDoor
set_option linter.unusedVariables false
set_option linter.unusedSimpArgs false
open Go.RowKit G

set_option maxRecDepth 100000 in
set_option maxHeartbeats 8000000 in
theorem site_any {W1 : World} {wv : Value} {ws : List LX.LW} {c : Str} {t d : Nat} {W : World} (h : RD' W1 wv ws c t d W) (hn : ws.length ≤ 65536) (hc : c.length ≤ 70000) (hdt : d + 1 ≤ t) (ht : LTabs W) :
    Calls Tryz.prog 144 #[rp W1] W fun e w' => e = .returned (.string ⟨(siteS c d).toArray⟩) ∧ RD' W1 wv ws c t (d + 1) w' ∧ Gr W1 W w' := by
  obtain ⟨h0, htn, hd⟩ := h
  have hlen := Lib.itoa_length_le (d : Int) (by omega) (by omega)
  have HI : Hid (∀ w, LTabs w → Calls Tryz.prog 119 #[.int .i64 d] w fun e w' => e = .returned (.string ⟨(Lib.itoa (d : Int)).toArray⟩) ∧ Below w.heap.size w w') := fun w ht => (Tryz.strconv_Itoa (d : Int) (by omega) (by omega) w ht.1).mono (by
    rintro e w' ⟨rfl, k, os, rfl⟩
    exact ⟨rfl, Lib.below_grow _ _ (Nat.le_refl _) _ _⟩)
  have HT := Lib.hid ht
  have HR := Lib.hid h0
  obtain ⟨⟨c0, c1, c2, c3⟩, f0, f1, f2, f3⟩ := h0.cells
  obtain ⟨x1, hx1⟩ : ∃ x, ByteArray.append ⟨c.toArray⟩ ⟨#[35]⟩ = x := ⟨_, rfl⟩
  obtain ⟨bi, hbi⟩ : ∃ bc : ByteArray, (⟨(Lib.itoa (d : Int)).toArray⟩ : ByteArray) = bc := ⟨_, rfl⟩
  obtain ⟨x2, hx2⟩ : ∃ x, ByteArray.append x1 bi = x := ⟨_, rfl⟩
  have hs1 : x1.size = c.length + 1 := by rw [← hx1]; simp [ByteArray.append, ByteArray.size]
  have hsi : bi.size ≤ 21 := by rw [← hbi]; exact hlen
  have K1 : ∀ W, (Op.stringOp .add ⟨c.toArray⟩ ⟨#[35]⟩).run Tryz.prog W = .ok (.string x1) W := fun W => by rw [← hx1]; exact run_string_add_sum W _ _ (by show c.length + 1 ≤ _; omega)
  have K2' : ∀ W, (Op.stringOp .add x1 bi).run Tryz.prog W = .ok (.string x2) W := fun W => by rw [← hx2]; exact run_string_add_sum W _ _ (by omega)
  have hx : x2 = ⟨(siteS c d).toArray⟩ := by
    rw [← hx2, ← hx1, ← hbi]
    simp [ByteArray.append, siteS]
  have HX := Lib.hid hx
  clear hx
  rw [hbi] at HI
  have HW1 : Hid (∀ w1, Below W.heap.size W w1 → w1.cell? ⟨W1.heap.size, 2, none⟩ = some (.string ⟨c.toArray⟩) ∧ w1.cell? ⟨W1.heap.size, 3, none⟩ = some (.int .i64 d)) := fun w1 hb =>
    ⟨by rw [hb.cell (p := ⟨W1.heap.size, 2, none⟩) HR.out.lt]; exact HR.out.cells.1.2.2.1, by rw [hb.cell (p := ⟨W1.heap.size, 3, none⟩) HR.out.lt]; exact HR.out.cells.1.2.2.2⟩
  have hw1 : IntKind.i64.wrap ((d : Int) + 1) = (d : Int) + 1 := IntWalk.i64_in _ (by omega)
  clear h0 ht hx1 hx2 hbi
  go_enter Tryz.func144, Tryz.ntmps144
  go_wp2
  go_region_held3 (fun w' => Below W.heap.size W w' ∧ w'.cell? ⟨W1.heap.size, 2, none⟩ = some (.string ⟨c.toArray⟩) ∧ w'.cell? ⟨W1.heap.size, 3, none⟩ = some (.int .i64 d)) (first | exact ⟨(Below.refl _ _).drew, HW1.out _ ((Below.refl _ _).drew)⟩ | exact ⟨hbx, HW1.out _ hbx⟩)
    (first | (go_at_call 119; (with_reducible refine (HI.out _ (HT.out.below (Below.refl _ _).drew HT.out.gb)).mono ?_); rintro x w1 ⟨rfl, hby⟩; have hbx : Below W.heap.size W w1 := (Below.refl W.heap.size W).drew.trans hby))
  have HBX := Lib.hid (hbx : Below W.heap.size W w1)
  obtain ⟨d0, d1⟩ := HW1.out _ hbx
  have hrd := HR.out.keep hbx
  obtain ⟨-, f0, f1, f2, f3⟩ := hrd.cells
  have HR2 := Lib.hid hrd
  clear hrd
  go_wp2
  refine bodyPost_ret (results_tmp Tryz.results144 _ _ _) rfl ?_
  refine ⟨?_, ⟨HR2.out.setD (d + 1), htn, hdt⟩, ((gr_refl W1 W).below HBX.out).set 3 _⟩
  rw [← HX.out]
  rfl
end Go.Proofs.YtfldflemdhkgoaaGreatDoor
