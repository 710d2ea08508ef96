/-
  Walks: OperFields returns true; old memory is as it was.
  Conditions: the value lies in memory; the three tables hold what the program's text lays in them.
-/
import Derived.Test.YtjbapldlgnlepaaDoorBoxF
import Derived.Test.YtjbapldlgnlepaaDoorBeyond
import Derived.Test.YtjbapldlgnlepaaDoorSizeX
import Derived.Deep.DeepCutAuto
namespace Go.Proofs.YtjbapldlgnlepaaDoor
open Go.RowKit Go.Deep Go.WideShapes

def onez (x : Int) : Nat → Int := fun _ => x
theorem beyond1 (W : World) (x : Int) (hx : -9223372036854775808 ≤ x ∧ x ≤ 9223372036854775807) (T : TypeId) :
    Calls Tryd.prog 11 #[.slice (some ⟨W.heap.size, 0, none⟩) 1 1] (W.alloc (.cells #[.int .i64 x] T)) fun e w' => e = .returned (.bool (beyB 1 (onez x))) ∧ W.alloc (.cells #[.int .i64 x] T) = w' := by
  refine beyond_is _ _ _ _ _ _ (by decide) (fun j hj => ?_) (fun _ => hx)
  obtain rfl : j = 0 := by omega
  simp [onez]
theorem atF {w : World} {b : Nat} {k n : Int} {s : ByteArray} {la : Option Addr} {ll lc : Nat} {L : Nat → V} {fa : Option Addr} {fl fc : Nat} {fn : Nat → ByteArray} {F : Nat → V} {e : Int} {key : ByteArray} {hk : Bool}
    (h : At w b 0 (V.mk k n s la ll lc L fa fl fc fn F e key hk).cells) :
    w.cell? ⟨b, 0, none⟩ = some (.int .u8 k) ∧ w.cell? ⟨b, 1, none⟩ = some (.int .i64 n) ∧ w.cell? ⟨b, 2, none⟩ = some (.string s) ∧ w.cell? ⟨b, 3, none⟩ = some (.slice la ll lc) ∧ w.cell? ⟨b, 4, none⟩ = some (.slice fa fl fc) ∧
      w.cell? ⟨b, 5, none⟩ = some (.int .u8 e) ∧ w.cell? ⟨b, 6, none⟩ = some (.string key) ∧ w.cell? ⟨b, 7, none⟩ = some (.bool hk) :=
  ⟨h 0 (by decide : 0 < 8), h 1 (by decide : 1 < 8), h 2 (by decide : 2 < 8), h 3 (by decide : 3 < 8), h 4 (by decide : 4 < 8), h 5 (by decide : 5 < 8), h 6 (by decide : 6 < 8), h 7 (by decide : 7 < 8)⟩

set_option maxRecDepth 100000 in
set_option maxHeartbeats 8000000 in
theorem fields_out (v : V) (nm : ByteArray) (w : World) (h : v.In w) (ht : Tabs w) (hn : nm.size ≤ 140737488355328) (hout : beyB 1 (onez v.vsz) = true ∨ v.kind ≠ 5 ∨ v.check = false ∨ 4096 < nm.size) :
    Calls Tryd.prog 6 #[v.agg, .string nm] w fun x w' => x = .returned (.bool true) ∧ Below w.heap.size w w' := by
  have OK0 := fx_new ht h 27
  have C0 := Lib.hid (fun W (h : FX w v W) => alive2_any W h.tabs)
  have Z1 := Lib.hid (fun W (h : FX w v W) => valueSize_is v W h.vin)
  have CB := Lib.hid (fun W T => beyond1 W v.vsz (vsz_range v) T)
  have CC := Lib.hid (fun W (h : FX w v W) => check_any v W h.vin h.tabs.1)
  cases v with
  | leaf => exact h.elim
  | mk k n s la ll lc L fa fl fc fn F e key hk =>
  generalize (V.mk k n s la ll lc L fa fl fc fn F e key hk).vsz = z1 at Z1 CB hout
  replace hout : beyB 1 (onez z1) = true ∨ k ≠ 5 ∨ (V.mk k n s la ll lc L fa fl fc fn F e key hk).check = false ∨ 4096 < nm.size := hout
  generalize beyB 1 (onez z1) = bz at CB hout
  generalize (V.mk k n s la ll lc L fa fl fc fn F e key hk).check = ck at CC hout
  have KS := Lib.hid (fun W (h : FX w (.mk k n s la ll lc L fa fl fc fn F e key hk) W) => And.intro h (atF h.cv))
  clear h ht
  simp only [V.agg, V.cells] at Z1 CC OK0 ⊢
  have OKH := Lib.hid OK0
  clear OK0
  have g1 : (0 : Int) ≤ (nm.size : Int) := by omega
  have g2 : (nm.size : Int) ≤ 140737488355328 := by omega
  have hout2 : bz = true ∨ (bz = false ∧ ¬ k = 5) ∨ (bz = false ∧ k = 5 ∧ ck = false) ∨ (bz = false ∧ k = 5 ∧ ck = true ∧ (4096 : Int) < (nm.size : Int)) := by
    have : (4096 < nm.size) ↔ (4096 : Int) < (nm.size : Int) := by omega
    rw [this] at hout
    cases bz <;> cases ck <;> by_cases h5 : k = 5 <;> simp_all
  clear hout hn
  go_enter Tryd.func6, Tryd.ntmps6
  go_upto_region 1 with fail
  have OKu := OKH.out
  generalize (w.alloc (.cells #[.int .u8 k, .int .i64 n, .string s, .slice la ll lc, .slice fa fl fc, .int .u8 e, .string key, .bool hk] 27)) = W0 at OKu ⊢
  have OK := Lib.hid (show FX w (.mk k n s la ll lc L fa fl fc fn F e key hk) W0 from OKu)
  clear OKu OKH
  obtain ⟨-, c0, c1, c2, c3, c4, c5, c6, c7⟩ := KS.out _ OK.out
  rcases hout2 with rfl | ⟨rfl, h5⟩ | ⟨rfl, rfl, rfl⟩ | ⟨rfl, rfl, rfl, h6⟩
  all_goals go_wp2_with (first
    | (go_at_call 9; (with_reducible refine (C0.out _ OK.out).mono ?_); rintro x w1 ⟨rfl, hb1⟩; replace OK := Lib.hid (OK.out.below hb1); clear hb1; clear c0 c1 c2 c3 c4 c5 c6 c7; obtain ⟨-, c0, c1, c2, c3, c4, c5, c6, c7⟩ := KS.out _ OK.out)
    | (go_at_call 13; (with_reducible refine (Z1.out _ OK.out).mono ?_); rintro x w1 ⟨rfl, hb1⟩; replace OK := Lib.hid (OK.out.below hb1); clear hb1; clear c0 c1 c2 c3 c4 c5 c6 c7; obtain ⟨-, c0, c1, c2, c3, c4, c5, c6, c7⟩ := KS.out _ OK.out)
    | (go_at_call 11; (with_reducible refine (CB.out _ _).mono ?_); rintro x w3 ⟨rfl, rfl⟩; replace OK := Lib.hid (OK.out.alloc (.cells #[.int .i64 z1] 3)); clear c0 c1 c2 c3 c4 c5 c6 c7; obtain ⟨-, c0, c1, c2, c3, c4, c5, c6, c7⟩ := KS.out _ OK.out)
    | (go_at_call 16; (with_reducible refine (CC.out _ OK.out).mono ?_); rintro x w1 ⟨rfl, hb1⟩; replace OK := Lib.hid (OK.out.below hb1); clear hb1; clear c0 c1 c2 c3 c4 c5 c6 c7; obtain ⟨-, c0, c1, c2, c3, c4, c5, c6, c7⟩ := KS.out _ OK.out))
  all_goals go_ret
  all_goals exact ⟨rfl, OK.out.low⟩
end Go.Proofs.YtjbapldlgnlepaaDoor
