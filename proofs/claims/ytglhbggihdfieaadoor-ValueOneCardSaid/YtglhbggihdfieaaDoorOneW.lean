/-
  Walks: ValueOne returns true; old memory is as it was.
  Conditions: both values lie in memory; the three tables hold what the program's text lays in them.
-/
import Derived.Test.YtglhbggihdfieaaDoorOneQ
import Derived.Test.YtglhbggihdfieaaDoorBox
namespace Go.Proofs.YtglhbggihdfieaaDoor
open Go.RowKit Go.Deep Go.WideShapes

set_option maxRecDepth 100000 in
set_option maxHeartbeats 4000000 in
theorem one_exit (v u : V) (w : World) (hv : v.In w) (hu : u.In w) (ht : Tabs w) (bz cv cu : Bool) (hbz : beyB 2 (two v.vsz u.vsz) = bz) (hcv : v.check = cv) (hcu : u.check = cu) (hx : bz = true ∨ cv = false ∨ cu = false) :
    Calls Tryd.prog 4 #[v.agg, u.agg] w fun x w' => x = .returned (.bool true) ∧ Below w.heap.size w w' := by
  have OK0 := box2 ht hv hu 27
  have C0 := Lib.hid (fun W (h : Box2 w v u W) => alive_any W h.tabs)
  have CV := Lib.hid (fun W (h : Box2 w v u W) => valueSize_is v W h.vin)
  have CU := Lib.hid (fun W (h : Box2 w v u W) => valueSize_is u W h.uin)
  have CB := Lib.hid (fun W T => beyond2 W v.vsz u.vsz (vsz_range v) (vsz_range u) T)
  have CC := Lib.hid (fun W (h : Box2 w v u W) => check_any v W h.vin h.tabs.1)
  have CD := Lib.hid (fun W (h : Box2 w v u W) => check_any u W h.uin h.tabs.1)
  have CB2 := Lib.hid (fun W T => (beyond2 W v.vsz u.vsz (vsz_range v) (vsz_range u) T).mono (R' := fun e w' => e = .returned (.bool (beyB 2 (two v.vsz u.vsz))) ∧ Below W.heap.size W w') (fun e w' ⟨h1, h2⟩ => ⟨h1, h2 ▸ below_alloc W _⟩))
  rw [hbz] at CB CB2
  rw [hcv] at CC
  rw [hcu] at CD
  clear hbz hcv hcu
  cases v with
  | leaf => exact hv.elim
  | mk k n s la ll lc L fa fl fc fn F e key hk =>
  cases u with
  | leaf => exact hu.elim
  | mk k' n' s' la' ll' lc' L' fa' fl' fc' fn' F' e' key' hk' =>
  generalize (V.mk k n s la ll lc L fa fl fc fn F e key hk).vsz = z1 at CV CB CB2
  generalize (V.mk k' n' s' la' ll' lc' L' fa' fl' fc' fn' F' e' key' hk').vsz = z2 at CU CB CB2
  have KS := Lib.hid (fun W (h : Box2 w (.mk k n s la ll lc L fa fl fc fn F e key hk) (.mk k' n' s' la' ll' lc' L' fa' fl' fc' fn' F' e' key' hk') W) => And.intro h (And.intro (at80 h.cv) (at80 h.cu)))
  clear hv hu ht
  simp only [V.agg, V.cells] at CV CU CC CD OK0 ⊢
  have OKH := Lib.hid OK0
  clear OK0
  have hx' : bz = true ∨ (bz = false ∧ cv = false) ∨ (bz = false ∧ cv = true ∧ cu = false) := by
    cases bz <;> cases cv <;> cases cu <;> simp at hx ⊢
  clear hx
  rcases hx' with rfl | ⟨rfl, rfl⟩ | ⟨rfl, rfl, rfl⟩
  all_goals
    go_enter Tryd.func4, Tryd.ntmps4
    go_wp2_with fail
    have OK := OKH.out
    generalize (w.alloc (.cells #[.int .u8 k, .int .i64 n, .string s, .slice la ll lc, .slice fa fl fc, .int .u8 e, .string key, .bool hk] 27)).alloc (.cells #[.int .u8 k', .int .i64 n', .string s', .slice la' ll' lc', .slice fa' fl' fc', .int .u8 e', .string key', .bool hk'] 27) = W0 at OK ⊢
    have OKd := Box2.below OK (Below.refl _ _).drew
    clear OK
    obtain ⟨-, ⟨c0, c1, c2, c3, c4, c5, c6, c7⟩, d0, d1, d2, d3, d4, d5, d6, d7⟩ := KS.out _ OKd
    go_region_with ((first
      | (go_at_call 20; refine (C0.out _ (by assumption)).mono ?_; rintro x w1 ⟨rfl, hb1⟩; (have OK1 := Box2.below (w := w) (v := (.mk k n s la ll lc L fa fl fc fn F e key hk)) (u := (.mk k' n' s' la' ll' lc' L' fa' fl' fc' fn' F' e' key' hk')) (by assumption) hb1); clear hb1; obtain ⟨-, ⟨c0, c1, c2, c3, c4, c5, c6, c7⟩, d0, d1, d2, d3, d4, d5, d6, d7⟩ := KS.out _ OK1)
      | (go_at_call_of 9 s; refine (CV.out _ (by assumption)).mono ?_; rintro x w1 ⟨rfl, hb1⟩; (have OK1 := Box2.below (w := w) (v := (.mk k n s la ll lc L fa fl fc fn F e key hk)) (u := (.mk k' n' s' la' ll' lc' L' fa' fl' fc' fn' F' e' key' hk')) (by assumption) hb1); clear hb1; obtain ⟨-, ⟨c0, c1, c2, c3, c4, c5, c6, c7⟩, d0, d1, d2, d3, d4, d5, d6, d7⟩ := KS.out _ OK1)
      | (go_at_call_of 9 s'; refine (CU.out _ (by assumption)).mono ?_; rintro x w1 ⟨rfl, hb1⟩; (have OK1 := Box2.below (w := w) (v := (.mk k n s la ll lc L fa fl fc fn F e key hk)) (u := (.mk k' n' s' la' ll' lc' L' fa' fl' fc' fn' F' e' key' hk')) (by assumption) hb1); clear hb1; obtain ⟨-, ⟨c0, c1, c2, c3, c4, c5, c6, c7⟩, d0, d1, d2, d3, d4, d5, d6, d7⟩ := KS.out _ OK1)
      | (go_at_call 8; refine (CB2.out _ _).mono ?_; rintro x w1 ⟨rfl, hb1⟩; (have OK1 := Box2.below (w := w) (v := (.mk k n s la ll lc L fa fl fc fn F e key hk)) (u := (.mk k' n' s' la' ll' lc' L' fa' fl' fc' fn' F' e' key' hk')) (by assumption) hb1); clear hb1; obtain ⟨-, ⟨c0, c1, c2, c3, c4, c5, c6, c7⟩, d0, d1, d2, d3, d4, d5, d6, d7⟩ := KS.out _ OK1)
      | (go_at_call_of 11 s; refine (CC.out _ (by assumption)).mono ?_; rintro x w1 ⟨rfl, hb1⟩; (have OK1 := Box2.below (w := w) (v := (.mk k n s la ll lc L fa fl fc fn F e key hk)) (u := (.mk k' n' s' la' ll' lc' L' fa' fl' fc' fn' F' e' key' hk')) (by assumption) hb1); clear hb1; obtain ⟨-, ⟨c0, c1, c2, c3, c4, c5, c6, c7⟩, d0, d1, d2, d3, d4, d5, d6, d7⟩ := KS.out _ OK1)
      | (go_at_call_of 11 s'; refine (CD.out _ (by assumption)).mono ?_; rintro x w1 ⟨rfl, hb1⟩; (have OK1 := Box2.below (w := w) (v := (.mk k n s la ll lc L fa fl fc fn F e key hk)) (u := (.mk k' n' s' la' ll' lc' L' fa' fl' fc' fn' F' e' key' hk')) (by assumption) hb1); clear hb1; obtain ⟨-, ⟨c0, c1, c2, c3, c4, c5, c6, c7⟩, d0, d1, d2, d3, d4, d5, d6, d7⟩ := KS.out _ OK1)))
  all_goals
    go_wp2_with fail
    refine (C0.out _ (by assumption)).mono ?_
    rintro x w9 ⟨rfl, hb9⟩
    have hz : Below w.heap.size w w9 := (Box2.below (w := w) (v := (.mk k n s la ll lc L fa fl fc fn F e key hk)) (u := (.mk k' n' s' la' ll' lc' L' fa' fl' fc' fn' F' e' key' hk')) (by assumption) hb9).low
    have HZ := Lib.hid hz
    clear hb9 hz
    go_wp2_with fail
    go_ret
    exact ⟨rfl, HZ.out⟩
end Go.Proofs.YtglhbggihdfieaaDoor
