/-
  Walks: OperFields over a record that may be.
  Conditions: the value lies in memory; the three tables hold what the program's text lays in them.
-/
import Derived.Test.YtjbapldlgnlepaaDoorFieldsW
namespace Go.Proofs.YtjbapldlgnlepaaDoor
open Go.RowKit Go.Deep Go.WideShapes

theorem same_yes {wx : World} {u v : V} (h : u.In wx) (h' : v.In wx) (hs : u.same v = true) : ∀ W, Below wx.heap.size wx W → Calls Tryd.prog 15 #[u.agg, v.agg] W fun x w' => x = .returned (.bool true) ∧ Below W.heap.size W w' := fun W hb => by
  have := same_any u v W (h.below hb) (h'.below hb)
  rw [hs] at this
  exact this
theorem atFo {w : World} {b o : Nat} {k n : Int} {s : ByteArray} {la : Option Addr} {ll lc : Nat} {L : Nat → V} {fa : Option Addr} {fl fc : Nat} {fn : Nat → ByteArray} {F : Nat → V} {e : Int} {key : ByteArray} {hk : Bool}
    (h : At w b (o + 1) (V.mk k n s la ll lc L fa fl fc fn F e key hk).cells) :
    w.cell? ⟨b, o + 1, none⟩ = some (.int .u8 k) ∧ w.cell? ⟨b, o + 2, none⟩ = some (.int .i64 n) ∧ w.cell? ⟨b, o + 3, none⟩ = some (.string s) ∧ w.cell? ⟨b, o + 4, none⟩ = some (.slice la ll lc) ∧ w.cell? ⟨b, o + 5, none⟩ = some (.slice fa fl fc) ∧
      w.cell? ⟨b, o + 6, none⟩ = some (.int .u8 e) ∧ w.cell? ⟨b, o + 7, none⟩ = some (.string key) ∧ w.cell? ⟨b, o + 8, none⟩ = some (.bool hk) :=
  ⟨h 0 (by decide : 0 < 8), h 1 (by decide : 1 < 8), h 2 (by decide : 2 < 8), h 3 (by decide : 3 < 8), h 4 (by decide : 4 < 8), h 5 (by decide : 5 < 8), h 6 (by decide : 6 < 8), h 7 (by decide : 7 < 8)⟩
/-- The box is filled: it was laid behind 'W1'. -/
theorem FX.store {w W1 W : World} {v : V} {b : Nat} (h1 : FX w v W1) (h : FX w v W) (hb : W1.heap.size ≤ b) (hg : ∀ W', Below w.heap.size w W' → Tabs W' ∧ v.In W') (cs : List Value) : FX w v (putL W b 0 cs) := by
  have hl := putL_low h.low b 0 cs (Nat.le_trans h1.low.size hb)
  refine ⟨hl, (hg _ hl).1, (hg _ hl).2, fun i hi => ?_⟩
  have hlt : w.heap.size < W1.heap.size := World.block_lt_of_cell? _ _ ((h1.cv i hi).trans (List.getElem?_eq_getElem hi))
  rw [World.cell?_of_block (w := W) (putL_block _ _ _ _ _ (Nat.ne_of_lt (Nat.lt_of_lt_of_le hlt hb)))]
  exact h.cv i hi
theorem ZB.lt {b : Nat} {W : World} (h : ZB b W) : b < W.heap.size := World.block_lt_of_cell? _ _ (h.at' 0 (by decide))
/-- What a region of 'get' leaves: the answer in a box of its own. -/
def GetCut (w : World) (v x : V) (s8 : Value) (p : Nat) (wx : World) : Prop := ∃ u : V, s8 = .bool true ∧ At wx p 0 u.cells ∧ u.In wx ∧ x.same u = true ∧ FX w v wx
theorem getcut_alloc {w W2 : World} {v x u : V} {T : TypeId} (hin : u.In W2) (hs : x.same u = true) (ok : FX w v W2) : GetCut w v x (.bool true) W2.heap.size (W2.alloc (.cells u.cells.toArray T)) :=
  ⟨u, rfl, at_new rfl (Below.refl _ _), hin.below (below_alloc _ _), hs, ok.alloc _⟩
theorem getcut_store {w W1 W2 : World} {v x u : V} {b B : Nat} (hg : ∀ W', Below w.heap.size w W' → Tabs W' ∧ v.In W') (h1 : FX w v W1) (h2 : FX w v W2) (hb : W1.heap.size ≤ b) (hz : ZB b W2) (hf : u.From B) (hlt : b < B) (hin : u.In W2) (hs : x.same u = true) : GetCut w v x (.bool true) b (putL W2 b 0 u.cells) := by
  refine ⟨u, rfl, putL_at _ _ _ _ fun i hi => ?_, in_putL hf hin hlt, hs, h1.store h2 hb hg _⟩
  have h8 : i < nv.cells.length := by
    have := in_cells hin
    rw [this] at hi
    exact hi
  exact ⟨_, (hz.at' i h8).trans (List.getElem?_eq_getElem h8)⟩
theorem putL8 (W : World) (b : Nat) (a0 a1 a2 a3 a4 a5 a6 a7 : Value) : ((((((((W.setCell ⟨b, 0, none⟩ a0).setCell ⟨b, 1, none⟩ a1).setCell ⟨b, 2, none⟩ a2).setCell ⟨b, 3, none⟩ a3).setCell ⟨b, 4, none⟩ a4).setCell ⟨b, 5, none⟩ a5).setCell ⟨b, 6, none⟩ a6).setCell ⟨b, 7, none⟩ a7) = putL W b 0 [a0, a1, a2, a3, a4, a5, a6, a7] := rfl
theorem getcut_alloc8 {w W2 : World} {v x : V} {T : TypeId} {k' n' : Int} {s' : ByteArray} {la' : Option Addr} {ll' lc' : Nat} {L' : Nat → V} {fa' : Option Addr} {fl' fc' : Nat} {fn' : Nat → ByteArray} {F' : Nat → V} {e' : Int} {key' : ByteArray} {hk' : Bool} (hin : V.In W2 (V.mk k' n' s' la' ll' lc' L' fa' fl' fc' fn' F' e' key' hk')) (hs : x.same (V.mk k' n' s' la' ll' lc' L' fa' fl' fc' fn' F' e' key' hk') = true) (ok : FX w v W2) : GetCut w v x (.bool true) W2.heap.size (W2.alloc (.cells #[.int .u8 k', .int .i64 n', .string s', .slice la' ll' lc', .slice fa' fl' fc', .int .u8 e', .string key', .bool hk'] T)) := getcut_alloc hin hs ok
theorem getcut_store8 {w W1 W2 : World} {v x : V} {b B : Nat} {k' n' : Int} {s' : ByteArray} {la' : Option Addr} {ll' lc' : Nat} {L' : Nat → V} {fa' : Option Addr} {fl' fc' : Nat} {fn' : Nat → ByteArray} {F' : Nat → V} {e' : Int} {key' : ByteArray} {hk' : Bool} (hg : ∀ W', Below w.heap.size w W' → Tabs W' ∧ v.In W') (h1 : FX w v W1) (h2 : FX w v W2) (hb : W1.heap.size ≤ b) (hz : ZB b W2) (hf : (V.mk k' n' s' la' ll' lc' L' fa' fl' fc' fn' F' e' key' hk').From B) (hlt : b < B) (hin : V.In W2 (V.mk k' n' s' la' ll' lc' L' fa' fl' fc' fn' F' e' key' hk')) (hs : x.same (V.mk k' n' s' la' ll' lc' L' fa' fl' fc' fn' F' e' key' hk') = true) : GetCut w v x (.bool true) b ((((((((W2.setCell ⟨b, 0, none⟩ (.int .u8 k')).setCell ⟨b, 1, none⟩ (.int .i64 n')).setCell ⟨b, 2, none⟩ (.string s')).setCell ⟨b, 3, none⟩ (.slice la' ll' lc')).setCell ⟨b, 4, none⟩ (.slice fa' fl' fc')).setCell ⟨b, 5, none⟩ (.int .u8 e')).setCell ⟨b, 6, none⟩ (.string key')).setCell ⟨b, 7, none⟩ (.bool hk')) := by
  have h := getcut_store hg h1 h2 hb hz hf hlt hin hs
  simp only [V.cells] at h
  rw [putL8]
  exact h

set_option maxRecDepth 100000 in
set_option maxHeartbeats 8000000 in
theorem fields_in (v : V) (nm : ByteArray) (w : World) (h : v.In w) (ht : Tabs w) (hn : nm.size ≤ 4096) (hbz : beyB 1 (onez v.vsz) = false) (h5 : v.kind = 5) (hc : v.check = true) :
    Calls Tryd.prog 6 #[v.agg, .string nm] w fun x w' => x = .returned (.bool true) ∧ Below w.heap.size w w' := by
  have OK0 := fx_new ht h 27
  have HT := Lib.hid (fun W' (hb : Below w.heap.size w W') => And.intro (ht.below hb) (h.below hb))
  have C0 := Lib.hid (fun W (h : FX w v W) => alive2_any W h.tabs)
  have Z1 := Lib.hid (fun W (h : FX w v W) => valueSize_is v W h.vin)
  have CB := Lib.hid (fun W T => beyond1 W v.vsz (vsz_range v) T)
  have CC := Lib.hid (fun W (h : FX w v W) => check_any v W h.vin h.tabs.1)
  have HG := Lib.hid (fun i (hi : i < v.flen) => get_nth hc h5 hi)
  have HN := Lib.hid (fun (h : ∀ j, j < v.flen → v.fnm j ≠ nm) => get_not h)
  cases v with
  | leaf => exact h.elim
  | mk k n s la ll lc L fa fl fc fn F e key hk =>
  replace h5 : k = 5 := h5
  subst h5
  have HCK := Lib.hid hc
  rw [hbz] at CB
  rw [hc] at CC
  clear hbz hc
  generalize (V.mk 5 n s la ll lc L fa fl fc fn F e key hk).vsz = z1 at Z1 CB
  have KS := Lib.hid (fun W (h : FX w (.mk 5 n s la ll lc L fa fl fc fn F e key hk) W) => And.intro h (atF h.cv))
  have hfl : fl ≤ fc ∧ fc ≤ maxLen := h.2.2.2.2.2.2.1
  obtain ⟨hfl1, hfl2⟩ := hfl
  unfold maxLen at hfl2
  clear h ht
  simp only [V.agg, V.cells] at Z1 CC OK0 ⊢
  have OKH := Lib.hid OK0
  clear OK0
  have g1 : (0 : Int) ≤ (nm.size : Int) := by omega
  have g2 : ¬ (4096 : Int) < (nm.size : Int) := by omega
  have HNM := Lib.hid hn
  clear hn
  go_enter Tryd.func6, Tryd.ntmps6
  go_upto_region 1 with fail
  have OKu := OKH.out
  generalize (w.alloc (.cells #[.int .u8 5, .int .i64 n, .string s, .slice la ll lc, .slice fa fl fc, .int .u8 e, .string key, .bool hk] 27)) = W0 at OKu ⊢
  have OK := Lib.hid (show FX w (.mk 5 n s la ll lc L fa fl fc fn F e key hk) W0 from OKu)
  clear OKu OKH
  obtain ⟨-, c0, c1, c2, c3, c4, c5, c6, c7⟩ := KS.out _ OK.out
  go_upto_region 3 with (first
    | (go_at_call 9; (with_reducible refine (C0.out _ OK.out).mono ?_); rintro x w1 ⟨rfl, hb1⟩; replace OK := Lib.hid (OK.out.below hb1); clear hb1; clear c0 c1 c2 c3 c4 c5 c6 c7; obtain ⟨-, c0, c1, c2, c3, c4, c5, c6, c7⟩ := KS.out _ OK.out)
    | (go_at_call 13; (with_reducible refine (Z1.out _ OK.out).mono ?_); rintro x w1 ⟨rfl, hb1⟩; replace OK := Lib.hid (OK.out.below hb1); clear hb1; clear c0 c1 c2 c3 c4 c5 c6 c7; obtain ⟨-, c0, c1, c2, c3, c4, c5, c6, c7⟩ := KS.out _ OK.out)
    | (go_at_call 11; (with_reducible refine (CB.out _ _).mono ?_); rintro x w3 ⟨rfl, rfl⟩; replace OK := Lib.hid (OK.out.alloc (.cells #[.int .i64 z1] 3)); clear c0 c1 c2 c3 c4 c5 c6 c7; obtain ⟨-, c0, c1, c2, c3, c4, c5, c6, c7⟩ := KS.out _ OK.out)
    | (go_at_call 16; (with_reducible refine (CC.out _ OK.out).mono ?_); rintro x w1 ⟨rfl, hb1⟩; replace OK := Lib.hid (OK.out.below hb1); clear hb1; clear c0 c1 c2 c3 c4 c5 c6 c7; obtain ⟨-, c0, c1, c2, c3, c4, c5, c6, c7⟩ := KS.out _ OK.out))
  clear C0 Z1 CB CC
  clear c0 c1 c2 c3 c4 c5 c6 c7
  go_wp2_with fail
  go_loopw [5, 6] (fun hs i wr => ∃ (k : Nat) (b : Bool), k ≤ fl ∧ i = .int .i64 k ∧ hs = .bool b ∧ (b = false → ∀ j, j < k → fn j ≠ nm) ∧ FX w (.mk 5 n s la ll lc L fa fl fc fn F e key hk) wr) (fun _ i _ => fl - (intOf i).toNat)
  case atStart => exact ⟨0, false, Nat.zero_le _, rfl, rfl, fun _ j hj => absurd hj (Nat.not_lt_zero _), OK.out⟩
  case round =>
    clear OK
    obtain ⟨k, bb, hk1, rfl, rfl, hno, ok⟩ := hrel
    have OK := Lib.hid ok
    have HNO := Lib.hid hno
    clear ok hno
    by_cases hlt : k < fl
    · obtain ⟨⟨b1, o1, rfl, -⟩, -⟩ := OK.out.vin.2.2.2.2.2.2.2.2 k hlt
      obtain ⟨Vk, hVk⟩ : ∃ x, F k = x := ⟨_, rfl⟩
      obtain ⟨nk, hnk⟩ : ∃ x, fn k = x := ⟨_, rfl⟩
      have hFk := (OK.out.vin.2.2.2.2.2.2.2.2 k hlt).2
      rw [hVk] at hFk
      cases Vk with
      | leaf => exact hFk.2.elim
      | mk kk nn ss laa llk lck Lk fak flk fck fnk Fk ek keyk hkk =>
      clear hFk
      have HGK := Lib.hid (HG.out k hlt)
      have KN : Hid (∀ W, FX w (.mk 5 n s la ll lc L (some ⟨b1, o1, none⟩) fl fc fn F e key hk) W → (W.cell? ⟨w.heap.size, 0, none⟩ = some (.int .u8 5) ∧ W.cell? ⟨w.heap.size, 1, none⟩ = some (.int .i64 n) ∧ W.cell? ⟨w.heap.size, 2, none⟩ = some (.string s) ∧ W.cell? ⟨w.heap.size, 3, none⟩ = some (.slice la ll lc) ∧ W.cell? ⟨w.heap.size, 4, none⟩ = some (.slice (some ⟨b1, o1, none⟩) fl fc) ∧ W.cell? ⟨w.heap.size, 5, none⟩ = some (.int .u8 e) ∧ W.cell? ⟨w.heap.size, 6, none⟩ = some (.string key) ∧ W.cell? ⟨w.heap.size, 7, none⟩ = some (.bool hk)) ∧ W.cell? ⟨b1, o1 + k * 9, none⟩ = some (.string nk)) := fun W h => by
        refine ⟨(KS.out W h).2, ?_⟩
        obtain ⟨⟨b2, o2, he, hat⟩, -⟩ := h.vin.2.2.2.2.2.2.2.2 k hlt
        simp only [Option.some.injEq, Addr.mk.injEq, and_true] at he
        obtain ⟨rfl, rfl⟩ := he
        rw [hnk] at hat
        exact hat 0 (Nat.succ_pos _)
      have hle : nk.size ≤ 4096 := by rw [← hnk]; exact HGK.out.2
      have DG := Lib.hid (fun (sb : Nat) (W : World) (ha : At W sb 0 [.int .u8 5, .int .i64 n, .string s, .slice la ll lc, .slice (some ⟨b1, o1, none⟩) fl fc, .int .u8 e, .string key, .bool hk, .int .u8 3, .int .i64 0, .string nk, .slice none 0 0, .slice none 0 0, .int .u8 0, .string ⟨#[]⟩, .bool false]) (h : FX w (.mk 5 n s la ll lc L (some ⟨b1, o1, none⟩) fl fc fn F e key hk) W) => doGet_at ha h.tabs h.vin HCK.out rfl hle)
      clear hle
      obtain ⟨⟨c0, c1, c2, c3, c4, c5, c6, c7⟩, m0⟩ := KN.out _ OK.out
      go_upto_region 7 with fail
      clear c0 c1 c2 c3 c4 c5 c6 c7 m0
      go_cut [7, 8] (fun s7 s8 wx => ∃ p : Nat, s7 = .pointer (some ⟨p, 0, none⟩) ∧ GetCut w (.mk 5 n s la ll lc L (some ⟨b1, o1, none⟩) fl fc fn F e key hk) (V.get (.mk 5 n s la ll lc L (some ⟨b1, o1, none⟩) fl fc fn F e key hk) nk) s8 p wx)
      case first =>
        obtain ⟨⟨c0, c1, c2, c3, c4, c5, c6, c7⟩, m0⟩ := KN.out _ OK.out; obtain ⟨⟨d0, d1, d2, d3, d4, d5, d6, d7⟩, m1⟩ := KN.out _ (OK.out.alloc (.cells #[.int .u8 0, .int .i64 0, .string ⟨#[]⟩, .slice none 0 0, .slice none 0 0, .int .u8 0, .string ⟨#[]⟩, .bool false] 27))
        go_region_with (first
          | (go_at_call 10; (with_reducible refine (text_fl _ _).mono ?_); rintro q w1 ⟨rfl, hb1⟩; (first | (have hz1 := Lib.hid (zb_T hb1)) | skip); (first | (have OK1 := Lib.hid (OK.out.drew.below hb1)) | (have OK1 := Lib.hid ((OK.out.alloc _).drew.below hb1))); clear hb1; clear c0 c1 c2 c3 c4 c5 c6 c7 d0 d1 d2 d3 d4 d5 d6 d7 m0 m1; obtain ⟨⟨c0, c1, c2, c3, c4, c5, c6, c7⟩, m0⟩ := KN.out _ OK1.out; obtain ⟨⟨d0, d1, d2, d3, d4, d5, d6, d7⟩, m1⟩ := KN.out _ (OK1.out.alloc (.cells #[.int .u8 0, .int .i64 0, .string ⟨#[]⟩, .slice none 0 0, .slice none 0 0, .int .u8 0, .string ⟨#[]⟩, .bool false] 27)))
          | (go_at_call 8; (first
              | (with_reducible refine (DG.out _ _ (at_new rfl (Below.refl _ _)) (OK1.out.alloc _)).mono ?_)
              | (with_reducible refine (DG.out _ _ (at_new (by simp) (Below.refl _ _)) ((OK1.out.alloc _).alloc _)).mono ?_)
              | (with_reducible refine (DG.out _ _ (At.below (below_alloc _ _) (at_new rfl (Below.refl _ _))) ((OK1.out.alloc _).alloc _)).mono ?_)); rintro q w2 ⟨k', n', s', la', ll', lc', L', fa', fl', fc', fn', F', e', key', hk', rfl, hin, hsm, hfr, hb2⟩; (have HF := Lib.hid hfr); (first | (have hz2 := Lib.hid (zb_B hb2)) | (have hz2 := Lib.hid (zb_C hb2)) | (have hz2 := Lib.hid (hz1.out.below (below_al hb2))) | skip); (first | (have OK2 := Lib.hid (OK1.out.below (below_al hb2))) | (have OK2 := Lib.hid (OK1.out.below (below_al (below_al hb2))))); (have HI := Lib.hid hin); (have HM := Lib.hid hsm); clear hin hsm hfr hb2; (first | (obtain ⟨⟨y0, y1, y2, y3, y4, y5, y6, y7⟩, z0', z1', z2', z3', z4', z5', z6', z7'⟩ := hz2.out.slots) | skip)))
        all_goals go_wp2_with fail
        all_goals go_meet
        all_goals (refine ⟨_, rfl, ?_⟩)
        all_goals first
        | (with_reducible exact getcut_alloc8 HI.out HM.out OK2.out)
        | (with_reducible exact getcut_store8 HT.out OK1.out OK2.out (Nat.le_refl _) hz2.out HF.out (by simp <;> omega) HI.out HM.out)
        | (with_reducible exact getcut_store8 HT.out OK1.out OK2.out (Nat.le_succ _) hz2.out HF.out (by simp <;> omega) HI.out HM.out)
        | (with_reducible exact getcut_store8 HT.out OK.out OK2.out (Nat.le_refl _) hz2.out HF.out (by have := hz1.out.lt; simp; omega) HI.out HM.out)
      case rest =>
        clear OK DG
        obtain ⟨p, rfl, uu, rfl, hat, hin, hsm, hfx⟩ := hcut
        have OK := Lib.hid hfx
        have HI := Lib.hid hin
        have HSM : Hid (uu.same (.mk kk nn ss laa llk lck Lk fak flk fck fnk Fk ek keyk hkk) = true) := by
          have h1 := HGK.out.1
          replace h1 : V.get (.mk 5 n s la ll lc L (some ⟨b1, o1, none⟩) fl fc fn F e key hk) (fn k) = F k := h1
          rw [hnk, hVk] at h1
          rw [h1] at hsm
          exact (same_symm _ _).trans hsm
        have KF : Hid (∀ W, FX w (.mk 5 n s la ll lc L (some ⟨b1, o1, none⟩) fl fc fn F e key hk) W → At W b1 (o1 + k * 9 + 1) (V.mk kk nn ss laa llk lck Lk fak flk fck fnk Fk ek keyk hkk).cells ∧ (V.mk kk nn ss laa llk lck Lk fak flk fck fnk Fk ek keyk hkk).In W) := fun W h => by
          obtain ⟨⟨b2, o2, he, hat⟩, hin⟩ := h.vin.2.2.2.2.2.2.2.2 k hlt
          simp only [Option.some.injEq, Addr.mk.injEq, and_true] at he
          obtain ⟨rfl, rfl⟩ := he
          rw [hVk] at hat hin
          refine ⟨fun i hi => ?_, hin.2⟩
          have := hat (i + 1) (Nat.succ_lt_succ hi)
          rw [show o1 + k * 9 + 1 + i = o1 + k * 9 + (i + 1) by omega]
          exact this
        clear hfx hsm
        cases uu with
        | leaf => exact hin.elim
        | mk k' n' s' la' ll' lc' L' fa' fl' fc' fn' F' e' key' hk' =>
        clear hin
        have CS := Lib.hid (same_yes HI.out (KF.out _ OK.out).2 HSM.out)
        simp only [V.agg, V.cells] at CS
        obtain ⟨⟨c0, c1, c2, c3, c4, c5, c6, c7⟩, m0⟩ := KN.out _ OK.out
        obtain ⟨u0, u1, u2, u3, u4, u5, u6, u7⟩ := atF hat
        obtain ⟨x0, x1, x2, x3, x4, x5, x6, x7⟩ := atFo (KF.out _ OK.out).1
        clear hat
        go_upto_region 8 with fail
        go_region_with (go_at_call 15; (with_reducible refine (CS.out _ ?_).mono ?_); (first | exact Below.refl _ _ | exact (Below.refl _ _).drew); rintro q w1 ⟨rfl, hb1⟩; (first | replace OK := Lib.hid (OK.out.drew.below hb1) | replace OK := Lib.hid (OK.out.below hb1)); clear hb1)
        all_goals (clear c0 c1 c2 c3 c4 c5 c6 c7 m0 u0 u1 u2 u3 u4 u5 u6 u7 x0 x1 x2 x3 x4 x5 x6 x7; clear CS HI)
        all_goals go_upto_region 10 with fail
        all_goals (obtain ⟨⟨c0, c1, c2, c3, c4, c5, c6, c7⟩, m0⟩ := KN.out _ OK.out; obtain ⟨q, hq⟩ : ∃ q, (nk.toList == nm.toList) = q := ⟨_, rfl⟩; have HQ := Lib.hid hq; have HX := Lib.hid hnk; clear hnk; cases bb)
        all_goals go_wp2_with fail
        all_goals refine ⟨⟨k + 1, _, hlt, by go_num, rfl, ?_, OK.out⟩, by simp [intOf]; omega⟩
        all_goals first
        | exact fun h => absurd h (by decide)
        | exact fun h j hj => by
            rcases Nat.lt_succ_iff_lt_or_eq.1 hj with h1 | rfl
            · exact HNO.out rfl j h1
            · intro he
              rw [HX.out] at he
              have := HQ.out
              rw [he, h] at this
              simp at this
    · obtain rfl : fl = k := by omega
      clear hlt
      have KE := Lib.hid (fun W (h : FX w (.mk 5 n s la ll lc L fa fl fc fn F e key hk) W) => And.intro (KS.out W h).2 trivial)
      have DG := Lib.hid (fun (sb : Nat) (W : World) (ha : At W sb 0 [.int .u8 5, .int .i64 n, .string s, .slice la ll lc, .slice fa fl fc, .int .u8 e, .string key, .bool hk, .int .u8 3, .int .i64 0, .string nm, .slice none 0 0, .slice none 0 0, .int .u8 0, .string ⟨#[]⟩, .bool false]) (h : FX w (.mk 5 n s la ll lc L fa fl fc fn F e key hk) W) => doGet_at ha h.tabs h.vin HCK.out rfl HNM.out)
      obtain ⟨⟨c0, c1, c2, c3, c4, c5, c6, c7⟩, m0⟩ := KE.out _ OK.out
      go_upto_region 11 with fail
      clear c0 c1 c2 c3 c4 c5 c6 c7 m0
      go_cut [9, 10] (fun s7 s8 wx => ∃ p : Nat, s7 = .pointer (some ⟨p, 0, none⟩) ∧ GetCut w (.mk 5 n s la ll lc L fa fl fc fn F e key hk) (V.get (.mk 5 n s la ll lc L fa fl fc fn F e key hk) nm) s8 p wx)
      case first =>
        obtain ⟨⟨c0, c1, c2, c3, c4, c5, c6, c7⟩, m0⟩ := KE.out _ OK.out; obtain ⟨⟨d0, d1, d2, d3, d4, d5, d6, d7⟩, m1⟩ := KE.out _ (OK.out.alloc (.cells #[.int .u8 0, .int .i64 0, .string ⟨#[]⟩, .slice none 0 0, .slice none 0 0, .int .u8 0, .string ⟨#[]⟩, .bool false] 27))
        go_region_with (first
          | (go_at_call 10; (with_reducible refine (text_fl _ _).mono ?_); rintro q w1 ⟨rfl, hb1⟩; (first | (have hz1 := Lib.hid (zb_T hb1)) | skip); (first | (have OK1 := Lib.hid (OK.out.drew.below hb1)) | (have OK1 := Lib.hid ((OK.out.alloc _).drew.below hb1))); clear hb1; clear c0 c1 c2 c3 c4 c5 c6 c7 d0 d1 d2 d3 d4 d5 d6 d7 m0 m1; obtain ⟨⟨c0, c1, c2, c3, c4, c5, c6, c7⟩, m0⟩ := KE.out _ OK1.out; obtain ⟨⟨d0, d1, d2, d3, d4, d5, d6, d7⟩, m1⟩ := KE.out _ (OK1.out.alloc (.cells #[.int .u8 0, .int .i64 0, .string ⟨#[]⟩, .slice none 0 0, .slice none 0 0, .int .u8 0, .string ⟨#[]⟩, .bool false] 27)))
          | (go_at_call 8; (first
              | (with_reducible refine (DG.out _ _ (at_new rfl (Below.refl _ _)) (OK1.out.alloc _)).mono ?_)
              | (with_reducible refine (DG.out _ _ (at_new (by simp) (Below.refl _ _)) ((OK1.out.alloc _).alloc _)).mono ?_)
              | (with_reducible refine (DG.out _ _ (At.below (below_alloc _ _) (at_new rfl (Below.refl _ _))) ((OK1.out.alloc _).alloc _)).mono ?_)); rintro q w2 ⟨k', n', s', la', ll', lc', L', fa', fl', fc', fn', F', e', key', hk', rfl, hin, hsm, hfr, hb2⟩; (have HF := Lib.hid hfr); (first | (have hz2 := Lib.hid (zb_B hb2)) | (have hz2 := Lib.hid (zb_C hb2)) | (have hz2 := Lib.hid (hz1.out.below (below_al hb2))) | skip); (first | (have OK2 := Lib.hid (OK1.out.below (below_al hb2))) | (have OK2 := Lib.hid (OK1.out.below (below_al (below_al hb2))))); (have HI := Lib.hid hin); (have HM := Lib.hid hsm); clear hin hsm hfr hb2; (first | (obtain ⟨⟨y0, y1, y2, y3, y4, y5, y6, y7⟩, z0', z1', z2', z3', z4', z5', z6', z7'⟩ := hz2.out.slots) | skip)))
        all_goals go_wp2_with fail
        all_goals go_meet
        all_goals (refine ⟨_, rfl, ?_⟩)
        all_goals first
        | (with_reducible exact getcut_alloc8 HI.out HM.out OK2.out)
        | (with_reducible exact getcut_store8 HT.out OK1.out OK2.out (Nat.le_refl _) hz2.out HF.out (by simp <;> omega) HI.out HM.out)
        | (with_reducible exact getcut_store8 HT.out OK1.out OK2.out (Nat.le_succ _) hz2.out HF.out (by simp <;> omega) HI.out HM.out)
        | (with_reducible exact getcut_store8 HT.out OK.out OK2.out (Nat.le_refl _) hz2.out HF.out (by have := hz1.out.lt; simp; omega) HI.out HM.out)
      case rest =>
        clear OK DG
        obtain ⟨p, rfl, uu, rfl, hat, hin, hsm, hfx⟩ := hcut
        have OK := Lib.hid hfx
        clear hfx
        have h0 : bb = false → uu.kind = 0 := fun h => by
          have h1 : V.get (.mk 5 n s la ll lc L fa fl fc fn F e key hk) nm = nv := HN.out (HNO.out h)
          rw [h1] at hsm
          exact (same_parts hsm).1
        clear hsm
        cases uu with
        | leaf => exact hin.elim
        | mk k' n' s' la' ll' lc' L' fa' fl' fc' fn' F' e' key' hk' =>
        replace h0 : bb = false → k' = 0 := h0
        clear hin
        obtain ⟨u0, u1, u2, u3, u4, u5, u6, u7⟩ := atF hat
        clear hat
        cases bb with
        | true => clear h0; go_wp2_with fail; go_ret; exact ⟨rfl, OK.out.low⟩
        | false => obtain rfl := h0 rfl; clear h0; go_wp2_with fail; go_ret; exact ⟨rfl, OK.out.low⟩
end Go.Proofs.YtjbapldlgnlepaaDoor
