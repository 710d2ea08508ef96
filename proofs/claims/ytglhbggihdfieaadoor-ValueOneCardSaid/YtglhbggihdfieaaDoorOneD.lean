/-
  Walks: ValueOne returns true where both values may be; old memory is as it was.
  Conditions: both values lie in memory; the three tables hold what the program's text lays in them.
-/
import Derived.Test.YtglhbggihdfieaaDoorOneQ
import Derived.Test.YtglhbggihdfieaaDoorBox
import Derived.Lib.MinMax
namespace Go.Proofs.YtglhbggihdfieaaDoor
open Go.RowKit Go.Deep Go.WideShapes

theorem ext_ne {s t : ByteArray} {m : Nat} (hm : m ≤ s.size ∧ m ≤ t.size ∧ (m = s.size ∨ m = t.size)) (hne : ¬ s = t) (hpre : ∀ x y : List UInt8, s.data.toList ++ x = t.data.toList ++ y → s = t) :
    ¬ (s.extract 0 m).toList = (t.extract 0 m).toList := by
  intro h
  have e1 : s.data.toList.take m = t.data.toList.take m := by
    rw [ByteArray.toList_eq, ByteArray.toList_eq, Lib.extract_data, Lib.extract_data] at h
    simpa using h
  have l1 : s.data.toList.length = s.size := by simp
  have l2 : t.data.toList.length = t.size := by simp
  rcases hm.2.2 with rfl | rfl
  · rw [List.take_of_length_le (by omega)] at e1
    refine hne (hpre (t.data.toList.drop s.size) [] ?_)
    rw [e1, List.append_nil, List.take_append_drop]
  · rw [List.take_of_length_le (l := t.data.toList) (by omega)] at e1
    refine hne (hpre [] (s.data.toList.drop t.size) ?_)
    rw [← e1, List.append_nil, List.take_append_drop]

set_option maxRecDepth 100000 in
set_option maxHeartbeats 4000000 in
theorem one_both (v u : V) (w : World) (hv : v.In w) (hu : u.In w) (ht : Tabs w) (hbz : beyB 2 (two v.vsz u.vsz) = false) (hcv : v.check = true) (hcu : u.check = true) :
    Calls Tryd.prog 4 #[v.agg, u.agg] w fun x w' => x = .returned (.bool true) ∧ Below w.heap.size w w' := by
  have OK0 := box2 ht hv hu 27
  have C0 := Lib.hid (fun W (h : Box2 w v u W) => alive_any W h.tabs)
  have CV := Lib.hid (fun W (h : Box2 w v u W) => valueSize_is v W h.vin)
  have CU := Lib.hid (fun W (h : Box2 w v u W) => valueSize_is u W h.uin)
  have CB := Lib.hid (fun W T => beyond2 W v.vsz u.vsz (vsz_range v) (vsz_range u) T)
  have CC := Lib.hid (fun W (h : Box2 w v u W) => check_any v W h.vin h.tabs.1)
  have CD := Lib.hid (fun W (h : Box2 w v u W) => check_any u W h.uin h.tabs.1)
  have CT := Lib.hid (fun W (h : Box2 w v u W) => text_any v W h.vin h.tabs.1 h.tabs.2.1 h.tabs.2.2)
  have CS := Lib.hid (fun W (h : Box2 w v u W) => text_any u W h.uin h.tabs.1 h.tabs.2.1 h.tabs.2.2)
  have CE := Lib.hid (fun W (h : Box2 w v u W) => same_any v u W h.vin h.uin)
  rw [hbz] at CB
  rw [hcv] at CC
  rw [hcu] at CD
  have TX := Lib.hid (one_facts hv hu hcv hcu)
  clear hbz hcv hcu
  cases v with
  | leaf => exact hv.elim
  | mk k n s la ll lc L fa fl fc fn F e key hk =>
  cases u with
  | leaf => exact hu.elim
  | mk k' n' s' la' ll' lc' L' fa' fl' fc' fn' F' e' key' hk' =>
  have KR := Lib.hid (And.intro hv.1 hu.1)
  generalize (V.mk k n s la ll lc L fa fl fc fn F e key hk).vsz = z1 at CV CB
  generalize (V.mk k' n' s' la' ll' lc' L' fa' fl' fc' fn' F' e' key' hk').vsz = z2 at CU CB
  generalize (V.mk k n s la ll lc L fa fl fc fn F e key hk).text = t1 at CT TX
  generalize (V.mk k' n' s' la' ll' lc' L' fa' fl' fc' fn' F' e' key' hk').text = t2 at CS TX
  generalize (V.mk k n s la ll lc L fa fl fc fn F e key hk).same (.mk k' n' s' la' ll' lc' L' fa' fl' fc' fn' F' e' key' hk') = q at CE TX
  simp only [V.kind] at TX
  have KS := Lib.hid (fun W (h : Box2 w (.mk k n s la ll lc L fa fl fc fn F e key hk) (.mk k' n' s' la' ll' lc' L' fa' fl' fc' fn' F' e' key' hk') W) => And.intro h (And.intro (at80 h.cv) (at80 h.cu)))
  clear hv hu ht
  simp only [V.agg, V.cells] at CV CU CC CD CT CS CE OK0 ⊢
  have OKH := Lib.hid OK0
  clear OK0
  go_enter Tryd.func4, Tryd.ntmps4
  go_wp2_with fail
  have OK := OKH.out
  generalize (w.alloc (.cells #[.int .u8 k, .int .i64 n, .string s, .slice la ll lc, .slice fa fl fc, .int .u8 e, .string key, .bool hk] 27)).alloc (.cells #[.int .u8 k', .int .i64 n', .string s', .slice la' ll' lc', .slice fa' fl' fc', .int .u8 e', .string key', .bool hk'] 27) = W0 at OK ⊢
  go_region_held3 (fun W => Box2 w (.mk k n s la ll lc L fa fl fc fn F e key hk) (.mk k' n' s' la' ll' lc' L' fa' fl' fc' fn' F' e' key' hk') W ∧
      (W.cell? ⟨w.heap.size, 0, none⟩ = some (.int .u8 k) ∧ W.cell? ⟨w.heap.size, 1, none⟩ = some (.int .i64 n) ∧ W.cell? ⟨w.heap.size, 2, none⟩ = some (.string s) ∧ W.cell? ⟨w.heap.size, 3, none⟩ = some (.slice la ll lc) ∧ W.cell? ⟨w.heap.size, 4, none⟩ = some (.slice fa fl fc) ∧ W.cell? ⟨w.heap.size, 5, none⟩ = some (.int .u8 e) ∧ W.cell? ⟨w.heap.size, 6, none⟩ = some (.string key) ∧ W.cell? ⟨w.heap.size, 7, none⟩ = some (.bool hk)) ∧
      (W.cell? ⟨w.heap.size + 1, 0, none⟩ = some (.int .u8 k') ∧ W.cell? ⟨w.heap.size + 1, 1, none⟩ = some (.int .i64 n') ∧ W.cell? ⟨w.heap.size + 1, 2, none⟩ = some (.string s') ∧ W.cell? ⟨w.heap.size + 1, 3, none⟩ = some (.slice la' ll' lc') ∧ W.cell? ⟨w.heap.size + 1, 4, none⟩ = some (.slice fa' fl' fc') ∧ W.cell? ⟨w.heap.size + 1, 5, none⟩ = some (.int .u8 e') ∧ W.cell? ⟨w.heap.size + 1, 6, none⟩ = some (.string key') ∧ W.cell? ⟨w.heap.size + 1, 7, none⟩ = some (.bool hk')))
    (first | exact KS.out _ (Box2.below (by go_split_ands; assumption) (by assumption)) | exact KS.out _ (OK.below (Below.refl _ _).drew) | exact KS.out _ (Box2.below (by go_split_ands; assumption) (below_alloc _ _)) | assumption)
    (first
      | (go_at_call 20; refine (C0.out _ ?_).mono ?_; (go_split_ands; assumption); rintro x w1 ⟨rfl, hb1⟩)
      | (go_at_call_of 9 s; refine (CV.out _ ?_).mono ?_; (go_split_ands; assumption); rintro x w1 ⟨rfl, hb1⟩)
      | (go_at_call_of 9 s'; refine (CU.out _ ?_).mono ?_; (go_split_ands; assumption); rintro x w1 ⟨rfl, hb1⟩)
      | (go_at_call 8; refine (CB.out _ _).mono ?_; rintro x w1 ⟨rfl, rfl⟩)
      | (go_at_call_of 11 s; refine (CC.out _ ?_).mono ?_; (go_split_ands; assumption); rintro x w1 ⟨rfl, hb1⟩)
      | (go_at_call_of 11 s'; refine (CD.out _ ?_).mono ?_; (go_split_ands; assumption); rintro x w1 ⟨rfl, hb1⟩))
  rename_i hS1
  have HS1 := Lib.hid hS1.1
  clear hS1 OK
  have OK := HS1.out
  go_wp2_with fail
  go_region_held3 (fun W => Box2 w (.mk k n s la ll lc L fa fl fc fn F e key hk) (.mk k' n' s' la' ll' lc' L' fa' fl' fc' fn' F' e' key' hk') W ∧
      (W.cell? ⟨w.heap.size, 0, none⟩ = some (.int .u8 k) ∧ W.cell? ⟨w.heap.size, 1, none⟩ = some (.int .i64 n) ∧ W.cell? ⟨w.heap.size, 2, none⟩ = some (.string s) ∧ W.cell? ⟨w.heap.size, 3, none⟩ = some (.slice la ll lc) ∧ W.cell? ⟨w.heap.size, 4, none⟩ = some (.slice fa fl fc) ∧ W.cell? ⟨w.heap.size, 5, none⟩ = some (.int .u8 e) ∧ W.cell? ⟨w.heap.size, 6, none⟩ = some (.string key) ∧ W.cell? ⟨w.heap.size, 7, none⟩ = some (.bool hk)) ∧
      (W.cell? ⟨w.heap.size + 1, 0, none⟩ = some (.int .u8 k') ∧ W.cell? ⟨w.heap.size + 1, 1, none⟩ = some (.int .i64 n') ∧ W.cell? ⟨w.heap.size + 1, 2, none⟩ = some (.string s') ∧ W.cell? ⟨w.heap.size + 1, 3, none⟩ = some (.slice la' ll' lc') ∧ W.cell? ⟨w.heap.size + 1, 4, none⟩ = some (.slice fa' fl' fc') ∧ W.cell? ⟨w.heap.size + 1, 5, none⟩ = some (.int .u8 e') ∧ W.cell? ⟨w.heap.size + 1, 6, none⟩ = some (.string key') ∧ W.cell? ⟨w.heap.size + 1, 7, none⟩ = some (.bool hk')))
    (first | exact KS.out _ (Box2.below (by go_split_ands; assumption) (by assumption)) | exact KS.out _ (OK.below (Below.refl _ _).drew) | exact KS.out _ (Box2.below (by go_split_ands; assumption) (below_alloc _ _)) | assumption)
    (first
      | (go_at_call_of 13 s; refine (CT.out _ ?_).mono ?_; (go_split_ands; assumption); rintro x w1 ⟨rfl, hb1⟩)
      | (go_at_call_of 13 s'; refine (CS.out _ ?_).mono ?_; (go_split_ands; assumption); rintro x w1 ⟨rfl, hb1⟩))
  rename_i hS2
  have HS2 := Lib.hid hS2.1
  clear hS2 OK
  have OK2 := KS.out _ HS2.out
  clear OK2
  obtain ⟨⟨s1, s2⟩, ⟨r1, r2⟩, heq, hpre⟩ := TX.out
  have n1 : ¬ t1 = ByteArray.empty := fun e => by rw [e] at s1; exact absurd s1 (by decide)
  have n2 : ¬ t2 = ByteArray.empty := fun e => by rw [e] at r1; exact absurd r1 (by decide)
  have hz1 : ((t1.size : Int) == 0) = false := by rw [beq_eq_false_iff_ne]; omega
  have hz2 : ((t2.size : Int) == 0) = false := by rw [beq_eq_false_iff_ne]; omega
  obtain ⟨m, hmin, m1, m2, m3⟩ : ∃ m : Nat, min (t1.size : Int) (t2.size : Int) = (m : Int) ∧ m ≤ t1.size ∧ m ≤ t2.size ∧ (m = t1.size ∨ m = t2.size) := ⟨min t1.size t2.size, by omega, by omega, by omega, by omega⟩
  have p1 : (0 : Int) ≤ (m : Int) := by omega
  have p2 : (m : Int) ≤ (t1.size : Int) := by omega
  have p3 : (m : Int) ≤ (t2.size : Int) := by omega
  have HM := Lib.hid (And.intro m1 (And.intro m2 m3))
  clear m1 m2 m3
  have HPRE := Lib.hid hpre
  clear hpre
  cases q
  · have hne : ¬ t1 = t2 := fun e => by simpa using heq.1 e
    have hbf := bytes_ne hne
    obtain ⟨-, ⟨c0, c1, c2, c3, c4, c5, c6, c7⟩, d0, d1, d2, d3, d4, d5, d6, d7⟩ := KS.out _ HS2.out
    have HN := Lib.hid hne
    clear heq hne
    go_wp2_with fail
    refine (CE.out _ HS2.out).mono ?_
    rintro x w1 ⟨rfl, hb1⟩
    have OK3 := HS2.out.below hb1
    have HS3 := Lib.hid OK3
    clear hb1 OK3 c0 c1 c2 c3 c4 c5 c6 c7 d0 d1 d2 d3 d4 d5 d6 d7
    obtain ⟨-, ⟨c0, c1, c2, c3, c4, c5, c6, c7⟩, d0, d1, d2, d3, d4, d5, d6, d7⟩ := KS.out _ HS3.out
    go_wp2_with fail
    have HMIN := Lib.hid hmin
    clear hmin
    by_cases g1 : k ≤ 2
    · have g1a : decide (k ≤ 2) = true := decide_eq_true g1
      by_cases g2 : k' ≤ 2
      · have g2a : decide (k' ≤ 2) = true := decide_eq_true g2
        go_quiet (fail)
        go_wp2_with fail
        go_ret
        exact ⟨rfl, below_drewN HS3.out.low _⟩
      · have g2a : decide (k' ≤ 2) = false := decide_eq_false g2
        go_quiet (fail)
        go_wp2_with fail
        go_ret
        refine ⟨?_, below_drewN HS3.out.low _⟩
        have hz := ext_ne HM.out HN.out (HPRE.out (by omega))
        simp [hz]
    · have g1a : decide (k ≤ 2) = false := decide_eq_false g1
      go_quiet (fail)
      go_wp2_with fail
      go_ret
      refine ⟨?_, below_drewN HS3.out.low _⟩
      have hz := ext_ne HM.out HN.out (HPRE.out (by omega))
      simp [hz]
  · obtain rfl : t1 = t2 := heq.2 rfl
    obtain ⟨-, ⟨c0, c1, c2, c3, c4, c5, c6, c7⟩, d0, d1, d2, d3, d4, d5, d6, d7⟩ := KS.out _ HS2.out
    clear heq
    go_wp2_with fail
    refine (CE.out _ HS2.out).mono ?_
    rintro x w1 ⟨rfl, hb1⟩
    have OK3 := HS2.out.below hb1
    have HS3 := Lib.hid OK3
    clear hb1 OK3 c0 c1 c2 c3 c4 c5 c6 c7 d0 d1 d2 d3 d4 d5 d6 d7
    obtain ⟨-, ⟨c0, c1, c2, c3, c4, c5, c6, c7⟩, d0, d1, d2, d3, d4, d5, d6, d7⟩ := KS.out _ HS3.out
    go_wp2_with fail
    have HMIN := Lib.hid hmin
    clear hmin
    by_cases g1 : k ≤ 2
    · have g1a : decide (k ≤ 2) = true := decide_eq_true g1
      by_cases g2 : k' ≤ 2
      · have g2a : decide (k' ≤ 2) = true := decide_eq_true g2
        go_quiet (fail)
        go_wp2_with fail
        go_ret
        exact ⟨rfl, below_drewN HS3.out.low _⟩
      · have g2a : decide (k' ≤ 2) = false := decide_eq_false g2
        go_quiet (fail)
        go_wp2_with fail
        go_ret
        refine ⟨?_, below_drewN HS3.out.low _⟩
        simp
    · have g1a : decide (k ≤ 2) = false := decide_eq_false g1
      go_quiet (fail)
      go_wp2_with fail
      go_ret
      refine ⟨?_, below_drewN HS3.out.low _⟩
      simp
end Go.Proofs.YtglhbggihdfieaaDoor
