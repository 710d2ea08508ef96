/-
  ValueSames: for any two values, wholly or as records, the code and the reference say the same: the law returns true and leaves its arguments as they were.
  Conditions: none beyond the row's own.
-/
import Derived.Test.YtglhbggihdfieaaSame2
import Derived.ChangeSame
import Derived.JoinedOf
import Derived.JoinedAt
import Derived.RowKit
import Derived.RowKit2
import Derived.ReadAgain
import Derived.ChangeAlike
import Derived.ProofKit
import Derived.Deep.RegionHeld3
namespace Go.Proofs.Ytglhbggihdfieaa
open Go.ChangeShapes Go.WideShapes Go.ChangeAt Go.RowKit Go.Deep

/-- Some bool is returned; old memory is as it was. -/
def AnyB (w : World) (e : Ending) (w' : World) : Prop := (∃ b : Bool, e = .returned (.bool b)) ∧ Below w.heap.size w w'

/-- n ints stand one behind the other. -/
def IntsAt (w : World) (b o n : Nat) : Prop := ∀ j, j < n → ∃ x : Int, w.cell? ⟨b, o + j, none⟩ = some (.int .i64 x)

set_option maxHeartbeats 400000 in
theorem beyond_any (w : World) (b o n c : Nat) (hn : n ≤ 1000) (h : IntsAt w b o n) :
    Calls Try.prog 4 #[.slice (some ⟨b, o, none⟩) n c] w (AnyB w) := by
  have H := Lib.hid h
  clear h
  go_enter Try.func4, Try.ntmps4
  go_wp2_with fail
  go_loopw [3, 4] (fun m i wr => ∃ k : Nat, k ≤ n ∧ i = .int .i64 k ∧ (∃ x : Int, m = .int .i64 x) ∧ w = wr) (fun _ i _ => n - (intOf i).toNat)
  case atStart => exact ⟨0, Nat.zero_le _, rfl, ⟨_, rfl⟩, rfl⟩
  case round =>
    obtain ⟨k, hk, rfl, ⟨x, rfl⟩, rfl⟩ := hrel
    by_cases hlt : k < n
    · obtain ⟨y, hy⟩ := H.out k hlt
      go_wp2_with fail
      · go_ret
        exact ⟨⟨_, rfl⟩, Below.refl _ _⟩
      · go_roundw
        case rel => exact ⟨k + 1, by omega, by go_num, ⟨_, rfl⟩, trivial⟩
        case measure => simp [intOf]; omega
    · go_wp2_with fail
      go_ret
      exact ⟨⟨_, rfl⟩, Below.refl _ _⟩

theorem ints2 (W : World) (x y : Int) (T : TypeId) : IntsAt (W.alloc (.cells #[.int .i64 x, .int .i64 y] T)) W.heap.size 0 2 := by
  intro j hj
  match j, hj with
  | 0, _ => exact ⟨x, by simp⟩
  | 1, _ => exact ⟨y, by simp⟩

/-- Two blocks behind 'w' and no more are known of 'W'. -/
def G2 (w W : World) : Prop := Below w.heap.size w W ∧ w.heap.size + 1 < W.heap.size

theorem keepS {w W W1 : World} {c0 c1 c2 c3 c4 c5 c6 c7 d0 d1 d2 d3 d4 d5 d6 d7 : Value} (hb : Below W.heap.size W W1)
    (h : G2 w W ∧ W.cell? ⟨w.heap.size, 0, none⟩ = some c0 ∧ W.cell? ⟨w.heap.size, 1, none⟩ = some c1 ∧ W.cell? ⟨w.heap.size, 2, none⟩ = some c2 ∧ W.cell? ⟨w.heap.size, 3, none⟩ = some c3 ∧ W.cell? ⟨w.heap.size, 4, none⟩ = some c4 ∧ W.cell? ⟨w.heap.size, 5, none⟩ = some c5 ∧ W.cell? ⟨w.heap.size, 6, none⟩ = some c6 ∧ W.cell? ⟨w.heap.size, 7, none⟩ = some c7 ∧
      W.cell? ⟨w.heap.size + 1, 0, none⟩ = some d0 ∧ W.cell? ⟨w.heap.size + 1, 1, none⟩ = some d1 ∧ W.cell? ⟨w.heap.size + 1, 2, none⟩ = some d2 ∧ W.cell? ⟨w.heap.size + 1, 3, none⟩ = some d3 ∧ W.cell? ⟨w.heap.size + 1, 4, none⟩ = some d4 ∧ W.cell? ⟨w.heap.size + 1, 5, none⟩ = some d5 ∧ W.cell? ⟨w.heap.size + 1, 6, none⟩ = some d6 ∧ W.cell? ⟨w.heap.size + 1, 7, none⟩ = some d7) :
    G2 w W1 ∧ W1.cell? ⟨w.heap.size, 0, none⟩ = some c0 ∧ W1.cell? ⟨w.heap.size, 1, none⟩ = some c1 ∧ W1.cell? ⟨w.heap.size, 2, none⟩ = some c2 ∧ W1.cell? ⟨w.heap.size, 3, none⟩ = some c3 ∧ W1.cell? ⟨w.heap.size, 4, none⟩ = some c4 ∧ W1.cell? ⟨w.heap.size, 5, none⟩ = some c5 ∧ W1.cell? ⟨w.heap.size, 6, none⟩ = some c6 ∧ W1.cell? ⟨w.heap.size, 7, none⟩ = some c7 ∧
      W1.cell? ⟨w.heap.size + 1, 0, none⟩ = some d0 ∧ W1.cell? ⟨w.heap.size + 1, 1, none⟩ = some d1 ∧ W1.cell? ⟨w.heap.size + 1, 2, none⟩ = some d2 ∧ W1.cell? ⟨w.heap.size + 1, 3, none⟩ = some d3 ∧ W1.cell? ⟨w.heap.size + 1, 4, none⟩ = some d4 ∧ W1.cell? ⟨w.heap.size + 1, 5, none⟩ = some d5 ∧ W1.cell? ⟨w.heap.size + 1, 6, none⟩ = some d6 ∧ W1.cell? ⟨w.heap.size + 1, 7, none⟩ = some d7 := by
  obtain ⟨⟨hB, hs⟩, h⟩ := h
  have hz := hb.size
  have e := (bcell hb).1
  refine ⟨⟨hB.trans (hb.mono hB.size), by omega⟩, ?_⟩
  rw [e _ _ (by omega), e _ _ (by omega), e _ _ (by omega), e _ _ (by omega), e _ _ (by omega), e _ _ (by omega), e _ _ (by omega), e _ _ (by omega), e _ _ (by omega), e _ _ (by omega), e _ _ (by omega), e _ _ (by omega), e _ _ (by omega), e _ _ (by omega), e _ _ (by omega), e _ _ (by omega)]
  exact h

/-- The two boxes, just laid. -/
theorem startS (w : World) (c0 c1 c2 c3 c4 c5 c6 c7 d0 d1 d2 d3 d4 d5 d6 d7 : Value) (T : TypeId) (W : World) (hW : W = (w.alloc (.cells #[c0, c1, c2, c3, c4, c5, c6, c7] T)).alloc (.cells #[d0, d1, d2, d3, d4, d5, d6, d7] T)) :
    G2 w W ∧ W.cell? ⟨w.heap.size, 0, none⟩ = some c0 ∧ W.cell? ⟨w.heap.size, 1, none⟩ = some c1 ∧ W.cell? ⟨w.heap.size, 2, none⟩ = some c2 ∧ W.cell? ⟨w.heap.size, 3, none⟩ = some c3 ∧ W.cell? ⟨w.heap.size, 4, none⟩ = some c4 ∧ W.cell? ⟨w.heap.size, 5, none⟩ = some c5 ∧ W.cell? ⟨w.heap.size, 6, none⟩ = some c6 ∧ W.cell? ⟨w.heap.size, 7, none⟩ = some c7 ∧
      W.cell? ⟨w.heap.size + 1, 0, none⟩ = some d0 ∧ W.cell? ⟨w.heap.size + 1, 1, none⟩ = some d1 ∧ W.cell? ⟨w.heap.size + 1, 2, none⟩ = some d2 ∧ W.cell? ⟨w.heap.size + 1, 3, none⟩ = some d3 ∧ W.cell? ⟨w.heap.size + 1, 4, none⟩ = some d4 ∧ W.cell? ⟨w.heap.size + 1, 5, none⟩ = some d5 ∧ W.cell? ⟨w.heap.size + 1, 6, none⟩ = some d6 ∧ W.cell? ⟨w.heap.size + 1, 7, none⟩ = some d7 := by
  subst hW
  exact ⟨⟨(below_alloc _ _).alloc (by simp) _, by simp⟩, by simp, by simp, by simp, by simp, by simp, by simp, by simp, by simp, by simp, by simp, by simp, by simp, by simp, by simp, by simp, by simp⟩

set_option maxHeartbeats 1000000 in
theorem sames_any (v u : V) (w : World) (h : v.In w) (h' : u.In w) :
    Calls Try.prog 3 #[v.agg, u.agg] w fun x w' => x = .returned (.bool true) ∧ Below w.heap.size w w' := by
  have HV := Lib.hid (fun W (hw : G2 w W) => valueSize_any v W (h.below hw.1))
  have HU := Lib.hid (fun W (hw : G2 w W) => valueSize_any u W (h'.below hw.1))
  have HS := Lib.hid (fun W (hw : G2 w W) => same_any v u W (h.below hw.1) (h'.below hw.1))
  have HR := Lib.hid (fun W (hw : G2 w W) => refSame_any v u W (h.below hw.1) (h'.below hw.1))
  have HSS := Lib.hid (fun W (hw : G2 w W) => shallow_any v u W (h.below hw.1) (h'.below hw.1))
  have HRS := Lib.hid (fun W (hw : G2 w W) => refShallow_any v u W (h.below hw.1) (h'.below hw.1))
  cases v with
  | leaf => exact h.elim
  | mk k n s la ll lc L fa fl fc fn F e key hk =>
  cases u with
  | leaf => exact h'.elim
  | mk k' n' s' la' ll' lc' L' fa' fl' fc' fn' F' e' key' hk' =>
  clear h h'
  simp only [V.agg, V.cells] at HV HU HS HR HSS HRS ⊢
  generalize (V.mk k n s la ll lc L fa fl fc fn F e key hk).same (V.mk k' n' s' la' ll' lc' L' fa' fl' fc' fn' F' e' key' hk') = q1 at HS HR
  generalize (V.mk k n s la ll lc L fa fl fc fn F e key hk).shallow (V.mk k' n' s' la' ll' lc' L' fa' fl' fc' fn' F' e' key' hk') = q2 at HSS HRS
  go_enter Try.func3, Try.ntmps3
  go_wp2_with fail
  generalize hW : (w.alloc (.cells #[.int .u8 k, .int .i64 n, .string s, .slice la ll lc, .slice fa fl fc, .int .u8 e, .string key, .bool hk] 27)).alloc (.cells #[.int .u8 k', .int .i64 n', .string s', .slice la' ll' lc', .slice fa' fl' fc', .int .u8 e', .string key', .bool hk'] 27) = W0
  have hS0 := startS w _ _ _ _ _ _ _ _ _ _ _ _ _ _ _ _ _ W0 hW.symm
  clear hW
  have KS := Lib.hid (fun W W1 => @keepS w W W1 (.int .u8 k) (.int .i64 n) (.string s) (.slice la ll lc) (.slice fa fl fc) (.int .u8 e) (.string key) (.bool hk) (.int .u8 k') (.int .i64 n') (.string s') (.slice la' ll' lc') (.slice fa' fl' fc') (.int .u8 e') (.string key') (.bool hk'))
  go_region_held3 (fun W => G2 w W ∧ W.cell? ⟨w.heap.size, 0, none⟩ = some (.int .u8 k) ∧ W.cell? ⟨w.heap.size, 1, none⟩ = some (.int .i64 n) ∧ W.cell? ⟨w.heap.size, 2, none⟩ = some (.string s) ∧ W.cell? ⟨w.heap.size, 3, none⟩ = some (.slice la ll lc) ∧ W.cell? ⟨w.heap.size, 4, none⟩ = some (.slice fa fl fc) ∧ W.cell? ⟨w.heap.size, 5, none⟩ = some (.int .u8 e) ∧ W.cell? ⟨w.heap.size, 6, none⟩ = some (.string key) ∧ W.cell? ⟨w.heap.size, 7, none⟩ = some (.bool hk) ∧
      W.cell? ⟨w.heap.size + 1, 0, none⟩ = some (.int .u8 k') ∧ W.cell? ⟨w.heap.size + 1, 1, none⟩ = some (.int .i64 n') ∧ W.cell? ⟨w.heap.size + 1, 2, none⟩ = some (.string s') ∧ W.cell? ⟨w.heap.size + 1, 3, none⟩ = some (.slice la' ll' lc') ∧ W.cell? ⟨w.heap.size + 1, 4, none⟩ = some (.slice fa' fl' fc') ∧ W.cell? ⟨w.heap.size + 1, 5, none⟩ = some (.int .u8 e') ∧ W.cell? ⟨w.heap.size + 1, 6, none⟩ = some (.string key') ∧ W.cell? ⟨w.heap.size + 1, 7, none⟩ = some (.bool hk'))
    (first | exact KS.out _ _ (Below.refl _ _).drew hS0 | exact KS.out _ _ (by assumption) (by assumption) | exact KS.out _ _ (below_alloc _ _) (by assumption))
    (first
      | (go_at_call_of 5 s; refine (HV.out _ ?_).mono ?_; (go_split_ands; assumption); rintro x w1 ⟨⟨m1, hm1, rfl⟩, hb1⟩)
      | (go_at_call_of 5 s'; refine (HU.out _ ?_).mono ?_; (go_split_ands; assumption); rintro x w1 ⟨⟨m1, hm1, rfl⟩, hb1⟩)
      | (go_at_call 4; refine (beyond_any _ _ _ _ _ ?_ (ints2 _ _ _ _)).mono ?_; (decide); rintro x w1 ⟨⟨r, rfl⟩, hb1⟩))
  rename_i hS1
  have HG := Lib.hid hS1.1.1
  clear hS0
  cases r
  · go_wp2_with fail
    go_region_held3 (fun W => G2 w W ∧ W.cell? ⟨w.heap.size, 0, none⟩ = some (.int .u8 k) ∧ W.cell? ⟨w.heap.size, 1, none⟩ = some (.int .i64 n) ∧ W.cell? ⟨w.heap.size, 2, none⟩ = some (.string s) ∧ W.cell? ⟨w.heap.size, 3, none⟩ = some (.slice la ll lc) ∧ W.cell? ⟨w.heap.size, 4, none⟩ = some (.slice fa fl fc) ∧ W.cell? ⟨w.heap.size, 5, none⟩ = some (.int .u8 e) ∧ W.cell? ⟨w.heap.size, 6, none⟩ = some (.string key) ∧ W.cell? ⟨w.heap.size, 7, none⟩ = some (.bool hk) ∧
      W.cell? ⟨w.heap.size + 1, 0, none⟩ = some (.int .u8 k') ∧ W.cell? ⟨w.heap.size + 1, 1, none⟩ = some (.int .i64 n') ∧ W.cell? ⟨w.heap.size + 1, 2, none⟩ = some (.string s') ∧ W.cell? ⟨w.heap.size + 1, 3, none⟩ = some (.slice la' ll' lc') ∧ W.cell? ⟨w.heap.size + 1, 4, none⟩ = some (.slice fa' fl' fc') ∧ W.cell? ⟨w.heap.size + 1, 5, none⟩ = some (.int .u8 e') ∧ W.cell? ⟨w.heap.size + 1, 6, none⟩ = some (.string key') ∧ W.cell? ⟨w.heap.size + 1, 7, none⟩ = some (.bool hk'))
      (first | exact KS.out _ _ (Below.refl _ _).drew hS1 | exact KS.out _ _ (by assumption) (by assumption))
      (first
        | (go_at_call 6; refine (HS.out _ ?_).mono ?_; (go_split_ands; assumption); rintro x w2 ⟨rfl, hb2⟩)
        | (go_at_call 7; refine (HR.out _ ?_).mono ?_; (go_split_ands; assumption); rintro x w2 ⟨rfl, hb2⟩)
        | (go_at_call 8; refine (HSS.out _ ?_).mono ?_; (go_split_ands; assumption); rintro x w2 ⟨rfl, hb2⟩)
        | (go_at_call 9; refine (HRS.out _ ?_).mono ?_; (go_split_ands; assumption); rintro x w2 ⟨rfl, hb2⟩))
    rename_i hS2
    have HG2 := Lib.hid hS2.1.1
    clear hS1 hS2
    go_wp2_with fail
    go_ret
    exact ⟨rfl, HG2.out⟩
  · clear hS1
    go_wp2_with fail
    go_ret
    exact ⟨rfl, HG.out⟩
end Go.Proofs.Ytglhbggihdfieaa
