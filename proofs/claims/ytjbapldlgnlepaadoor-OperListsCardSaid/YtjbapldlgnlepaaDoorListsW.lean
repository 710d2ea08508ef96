/-
  Walks: OperLists returns true; old memory is as it was.
  Conditions: the values lie in memory; the three tables hold what the program's text lays in them.
-/
import Derived.Test.YtjbapldlgnlepaaDoorListsP
import Derived.Test.YtjbapldlgnlepaaDoorBeyond
import Derived.Deep.DeepCutAuto
import Derived.IntWalk
namespace Go.Proofs.YtjbapldlgnlepaaDoor
open Go.RowKit Go.Deep Go.WideShapes

/-- Two numbers as a row. -/
def twoz (x y : Int) : Nat → Int := fun i => if i = 0 then x else y
theorem beyond2z (W : World) (x y : Int) (hx : -9223372036854775808 ≤ x ∧ x ≤ 9223372036854775807) (hy : -9223372036854775808 ≤ y ∧ y ≤ 9223372036854775807) (T : TypeId) :
    Calls Tryd.prog 11 #[.slice (some ⟨W.heap.size, 0, none⟩) 2 2] (W.alloc (.cells #[.int .i64 x, .int .i64 y] T)) fun e w' => e = .returned (.bool (beyB 2 (twoz x y))) ∧ Below W.heap.size W w' := by
  refine (beyond_is _ _ _ _ _ _ (by decide) (fun j hj => ?_) (fun i => ?_)).mono fun e w' ⟨h1, h2⟩ => ⟨h1, h2 ▸ below_alloc _ _⟩
  · match j, hj with
    | 0, _ => simp [twoz]
    | 1, _ => simp [twoz]
  · unfold twoz
    split
    · exact hx
    · exact hy
theorem at8z {w : World} {b : Nat} {k n : Int} {s : ByteArray} {la : Option Addr} {ll lc : Nat} {L : Nat → V} {fa : Option Addr} {fl fc : Nat} {fn : Nat → ByteArray} {F : Nat → V} {e : Int} {key : ByteArray} {hk : Bool}
    (h : At w b 0 (V.mk k n s la ll lc L fa fl fc fn F e key hk).cells) :
    w.cell? ⟨b, 0, none⟩ = some (.int .u8 k) ∧ w.cell? ⟨b, 1, none⟩ = some (.int .i64 n) ∧ w.cell? ⟨b, 2, none⟩ = some (.string s) ∧ w.cell? ⟨b, 3, none⟩ = some (.slice la ll lc) ∧ w.cell? ⟨b, 4, none⟩ = some (.slice fa fl fc) ∧
      w.cell? ⟨b, 5, none⟩ = some (.int .u8 e) ∧ w.cell? ⟨b, 6, none⟩ = some (.string key) ∧ w.cell? ⟨b, 7, none⟩ = some (.bool hk) :=
  ⟨h 0 (by decide : 0 < 8), h 1 (by decide : 1 < 8), h 2 (by decide : 2 < 8), h 3 (by decide : 3 < 8), h 4 (by decide : 4 < 8), h 5 (by decide : 5 < 8), h 6 (by decide : 6 < 8), h 7 (by decide : 7 < 8)⟩
theorem at8o {w : World} {b o : Nat} {k n : Int} {s : ByteArray} {la : Option Addr} {ll lc : Nat} {L : Nat → V} {fa : Option Addr} {fl fc : Nat} {fn : Nat → ByteArray} {F : Nat → V} {e : Int} {key : ByteArray} {hk : Bool}
    (h : At w b o (V.mk k n s la ll lc L fa fl fc fn F e key hk).cells) :
    w.cell? ⟨b, o, none⟩ = some (.int .u8 k) ∧ w.cell? ⟨b, o + 1, none⟩ = some (.int .i64 n) ∧ w.cell? ⟨b, o + 2, none⟩ = some (.string s) ∧ w.cell? ⟨b, o + 3, none⟩ = some (.slice la ll lc) ∧ w.cell? ⟨b, o + 4, none⟩ = some (.slice fa fl fc) ∧
      w.cell? ⟨b, o + 5, none⟩ = some (.int .u8 e) ∧ w.cell? ⟨b, o + 6, none⟩ = some (.string key) ∧ w.cell? ⟨b, o + 7, none⟩ = some (.bool hk) :=
  ⟨h 0 (by decide : 0 < 8), h 1 (by decide : 1 < 8), h 2 (by decide : 2 < 8), h 3 (by decide : 3 < 8), h 4 (by decide : 4 < 8), h 5 (by decide : 5 < 8), h 6 (by decide : 6 < 8), h 7 (by decide : 7 < 8)⟩
theorem lv_len {a : Option Addr} {m c : Nat} {M : Nat → V} (h : (lv a m c M).check = true) : m ≤ 4096 := by
  have h1 := ((check_iff _).1 h).2.1
  have h2 : ∀ j, j ≤ m → j ≤ sumTo j (fun i => (M i).size) := by
    intro j
    induction j with
    | zero => exact fun _ => Nat.zero_le _
    | succ j ih =>
      intro hj
      have a := ih (by omega)
      have b := V.size_pos (((check_iff _).1 h).1.2.1 j (by omega))
      rw [sumTo]
      omega
  have h3 := h2 m (Nat.le_refl _)
  simp only [lv, V.size] at h1
  omega
theorem vals_at {W : World} {bl ol ll lc : Nat} {L : Nat → V} (h : Vals W (some ⟨bl, ol, none⟩) ll lc L) {i : Nat} (hi : i < ll) : At W bl (ol + i * 8) (L i).cells := by
  obtain ⟨⟨b2, o2, he, hat⟩, -⟩ := h.el i hi
  simp only [Option.some.injEq, Addr.mk.injEq, and_true] at he
  obtain ⟨rfl, rfl⟩ := he
  exact hat
theorem same_calls {W0 : World} {u v : V} (h : u.In W0) (h' : v.In W0) {b : Bool} (hs : u.same v = b) : ∀ W, Below W0.heap.size W0 W → Calls Tryd.prog 15 #[u.agg, v.agg] W fun x w' => x = .returned (.bool b) ∧ Below W.heap.size W w' := fun W hb => by
  have := same_any u v W (h.below hb) (h'.below hb)
  rw [hs] at this
  exact this

set_option maxRecDepth 100000 in
set_option maxHeartbeats 8000000 in
theorem lists_any (la : Option Addr) (ll lc : Nat) (L : Nat → V) (v : V) (w : World) (hl : Vals w la ll lc L) (h : v.In w) (ht : Tabs w) :
    Calls Tryd.prog 5 #[.slice la ll lc, v.agg] w fun x w' => x = .returned (.bool true) ∧ Below w.heap.size w w' := by
  have h0 : LX w la ll lc L [] w := ⟨Below.refl _ _, ht, hl, fun _ hp => by cases hp⟩
  have OK0 := h0.push (T := 27) h
  have hvs := In_same h
  have hlen := hl.hlc
  have C0 := Lib.hid (fun W (h : LX w la ll lc L [(w.heap.size, v)] W) => alive2_any W h.tabs)
  have ZL := Lib.hid (fun W (h : LX w la ll lc L [(w.heap.size, v)] W) => valuesVsz_any la ll lc L W h.vals)
  have ZV := Lib.hid (fun W (h : LX w la ll lc L [(w.heap.size, v)] W) => valueSize_is v W (h.boxes _ (.head _)).2.2)
  have CB := Lib.hid (fun W T => beyond2z W (lsz ll L) v.vsz (lsz_range (Nat.le_trans hl.hlc.1 hl.hlc.2)) (vsz_range v) T)
  have CL := Lib.hid (fun W (h : LX w la ll lc L [(w.heap.size, v)] W) => oDo_any ⟨#[108, 105, 115, 116]⟩ la ll lc L W h.vals h.tabs)
  clear hl h0
  cases v with
  | leaf => exact h.elim
  | mk k n s va vl vc VL fa fl fc fn F e key hk =>
  clear h
  have HVS := Lib.hid hvs
  clear hvs
  generalize (V.mk k n s va vl vc VL fa fl fc fn F e key hk).vsz = z1 at ZV CB
  generalize lsz ll L = z0 at ZL CB
  generalize beyB 2 (twoz z0 z1) = bz at CB
  obtain ⟨b1, hb1⟩ : ∃ b, doB ⟨#[108, 105, 115, 116]⟩ ll L = b := ⟨_, rfl⟩
  have F1 := Lib.hid (fun (x y : V) => lists_facts (x := x) (y := y) (ll := ll) (L := L) HVS.out)
  rw [hb1] at CL F1
  clear hb1
  unfold maxLen at hlen
  obtain ⟨hlen1, hlen2⟩ := hlen
  have g0 : (0 : Int) ≤ (ll : Int) := by omega
  have g1 : (ll : Int) ≤ 9223372036854775807 := by omega
  simp only [V.agg, V.cells] at ZV OK0 ⊢
  have OKH := Lib.hid OK0
  clear OK0 ht
  go_enter Tryd.func5, Tryd.ntmps5
  go_upto_region 1 with fail
  have OKu := OKH.out
  generalize (w.alloc (.cells #[.int .u8 k, .int .i64 n, .string s, .slice va vl vc, .slice fa fl fc, .int .u8 e, .string key, .bool hk] 27)) = W0 at OKu ⊢
  have OK := Lib.hid (show LX w la ll lc L [(w.heap.size, (.mk k n s va vl vc VL fa fl fc fn F e key hk))] W0 from OKu)
  clear OKu OKH
  obtain ⟨c0, c1, c2, c3, c4, c5, c6, c7⟩ := at8z (OK.out.boxes _ (.head _)).2.1
  clear c0 c1 c2 c3 c4 c5 c6 c7
  go_cut [27] (fun z27 wx => z27 = .bool bz ∧ LX w la ll lc L [(w.heap.size, (.mk k n s va vl vc VL fa fl fc fn F e key hk))] wx)
  case first =>
    obtain ⟨c0, c1, c2, c3, c4, c5, c6, c7⟩ := at8z (OK.out.boxes _ (.head _)).2.1
    go_region_with (first
    | (go_at_call 9; (with_reducible refine (C0.out _ ?_).mono ?_); (first | exact OK.out | exact OK.out.drew); rintro x w1 ⟨rfl, hb1⟩; (first | replace OK := Lib.hid (OK.out.below hb1) | replace OK := Lib.hid (OK.out.drew.below hb1)); clear hb1; clear c0 c1 c2 c3 c4 c5 c6 c7; obtain ⟨c0, c1, c2, c3, c4, c5, c6, c7⟩ := at8z (OK.out.boxes _ (.head _)).2.1)
    | (go_at_call 12; (with_reducible refine (ZL.out _ ?_).mono ?_); (first | exact OK.out | exact OK.out.drew); rintro x w1 ⟨rfl, hb1⟩; (first | replace OK := Lib.hid (OK.out.below hb1) | replace OK := Lib.hid (OK.out.drew.below hb1)); clear hb1; clear c0 c1 c2 c3 c4 c5 c6 c7; obtain ⟨c0, c1, c2, c3, c4, c5, c6, c7⟩ := at8z (OK.out.boxes _ (.head _)).2.1)
    | (go_at_call 13; (with_reducible refine (ZV.out _ ?_).mono ?_); (first | exact OK.out | exact OK.out.drew); rintro x w1 ⟨rfl, hb1⟩; (first | replace OK := Lib.hid (OK.out.below hb1) | replace OK := Lib.hid (OK.out.drew.below hb1)); clear hb1; clear c0 c1 c2 c3 c4 c5 c6 c7; obtain ⟨c0, c1, c2, c3, c4, c5, c6, c7⟩ := at8z (OK.out.boxes _ (.head _)).2.1)
    | (go_at_call 11; (with_reducible refine (CB.out _ _).mono ?_); rintro x w1 ⟨rfl, hb1⟩; replace OK := Lib.hid (OK.out.below hb1); clear hb1; clear c0 c1 c2 c3 c4 c5 c6 c7; obtain ⟨c0, c1, c2, c3, c4, c5, c6, c7⟩ := at8z (OK.out.boxes _ (.head _)).2.1))
    all_goals go_wp2_with fail
    all_goals go_meet
    all_goals exact ⟨rfl, OK.out⟩
  case rest =>
    clear OK ZL ZV CB
    obtain ⟨rfl, hok⟩ := hcut
    have OK := Lib.hid hok
    clear hok
    cases bz with
    | true =>
      go_wp2_with (go_at_call 9; (with_reducible refine (C0.out _ OK.out).mono ?_); rintro x w1 ⟨rfl, hb1⟩; replace OK := Lib.hid (OK.out.below hb1); clear hb1)
      go_ret
      exact ⟨rfl, OK.out.low⟩
    | false =>
      clear C0
      go_upto_region 4 with (go_at_call 14; (with_reducible refine (CL.out _ OK.out).mono ?_); rintro q w1 ⟨ux, rfl, hd⟩; have HX := Lib.hid hd.yes; have HI := Lib.hid hd.inn; replace OK := Lib.hid (OK.out.below hd.low); clear hd; (have hin := HI.out); rcases ux with _ | ⟨kx, nx, sx, lax, llx, lcx, Lx, fax, flx, fcx, fnx, Fx, ex, keyx, hkx⟩; (exact hin.elim); clear hin; simp only [V.agg, V.cells])
      replace OK := Lib.hid (OK.out.push (T := 27) HI.out)
      have hfix : LX w la ll lc L ((w1.heap.size, (.mk kx nx sx lax llx lcx Lx fax flx fcx fnx Fx ex keyx hkx)) :: [(w.heap.size, (.mk k n s va vl vc VL fa fl fc fn F e key hk))]) (w1.alloc (.cells #[.int .u8 kx, .int .i64 nx, .string sx, .slice lax llx lcx, .slice fax flx fcx, .int .u8 ex, .string keyx, .bool hkx] 27)) := OK.out
      clear HI OK
      revert hfix
      generalize w1.alloc (.cells #[.int .u8 kx, .int .i64 nx, .string sx, .slice lax llx lcx, .slice fax flx fcx, .int .u8 ex, .string keyx, .bool hkx] 27) = W1
      generalize w1.heap.size = px
      intro hfix
      have OK := Lib.hid hfix
      clear hfix CL
      obtain ⟨b2, hb2⟩ : ∃ b, doB ⟨#[112, 117, 115, 104]⟩ 2 (v2 (.mk kx nx sx lax llx lcx Lx fax flx fcx fnx Fx ex keyx hkx) (.mk k n s va vl vc VL fa fl fc fn F e key hk)) = b := ⟨_, rfl⟩
      have DP := Lib.hid (fun (sb : Nat) (W : World) (ha : At W sb 0 [.int .u8 kx, .int .i64 nx, .string sx, .slice lax llx lcx, .slice fax flx fcx, .int .u8 ex, .string keyx, .bool hkx, .int .u8 k, .int .i64 n, .string s, .slice va vl vc, .slice fa fl fc, .int .u8 e, .string key, .bool hk]) (h : LX w la ll lc L ((px, (.mk kx nx sx lax llx lcx Lx fax flx fcx fnx Fx ex keyx hkx)) :: [(w.heap.size, (.mk k n s va vl vc VL fa fl fc fn F e key hk))]) W) => doPush_at (x := (.mk kx nx sx lax llx lcx Lx fax flx fcx fnx Fx ex keyx hkx)) (v := (.mk k n s va vl vc VL fa fl fc fn F e key hk)) ha h.tabs (h.boxes _ (.head _)).2.2 (h.boxes _ (.tail _ (.head _))).2.2)
      have FX := Lib.hid (fun y => F1.out (.mk kx nx sx lax llx lcx Lx fax flx fcx fnx Fx ex keyx hkx) y)
      rw [hb2] at DP FX
      clear hb2
      obtain ⟨c0, c1, c2, c3, c4, c5, c6, c7⟩ := at8z (OK.out.boxes _ (.tail _ (.head _))).2.1
      obtain ⟨d0, d1, d2, d3, d4, d5, d6, d7⟩ := at8z (OK.out.boxes _ (.head _)).2.1
      go_upto_region 5 with (go_at_call 8; (with_reducible refine (DP.out _ _ (at_new rfl (Below.refl _ _)) (OK.out.alloc _)).mono ?_); rintro q w1 ⟨uy, rfl, hi, hy, hb⟩; have HY := Lib.hid hy; have HI := Lib.hid hi; replace OK := Lib.hid (OK.out.below (below_al hb)); clear hy hb; rcases uy with _ | ⟨ky, ny, sy, lay, lly, lcy, Ly, fay, fly, fcy, fny, Fy, ey, keyy, hky⟩; (exact hi.elim); clear hi; simp only [V.agg, V.cells])
      replace OK := Lib.hid (OK.out.push (T := 27) HI.out)
      have hfix : LX w la ll lc L ((w1.heap.size, (.mk ky ny sy lay lly lcy Ly fay fly fcy fny Fy ey keyy hky)) :: (px, (.mk kx nx sx lax llx lcx Lx fax flx fcx fnx Fx ex keyx hkx)) :: [(w.heap.size, (.mk k n s va vl vc VL fa fl fc fn F e key hk))]) (w1.alloc (.cells #[.int .u8 ky, .int .i64 ny, .string sy, .slice lay lly lcy, .slice fay fly fcy, .int .u8 ey, .string keyy, .bool hky] 27)) := OK.out
      clear HI OK
      revert hfix
      generalize w1.alloc (.cells #[.int .u8 ky, .int .i64 ny, .string sy, .slice lay lly lcy, .slice fay fly fcy, .int .u8 ey, .string keyy, .bool hky] 27) = W2
      generalize w1.heap.size = py
      intro hfix
      have OK := Lib.hid hfix
      clear hfix DP c0 c1 c2 c3 c4 c5 c6 c7 d0 d1 d2 d3 d4 d5 d6 d7
      by_cases hbb : b1 = true ∧ b2 = true
      case neg =>
        have hbb2 : b1 = false ∨ (b1 = true ∧ b2 = false) := by cases b1 <;> cases b2 <;> simp_all
        clear hbb FX F1
        rcases hbb2 with rfl | ⟨rfl, rfl⟩
        all_goals go_wp2_with fail
        all_goals go_ret
        all_goals exact ⟨rfl, OK.out.low⟩
      case pos =>
        obtain ⟨rfl, rfl⟩ := hbb
        have hf := FX.out (.mk ky ny sy lay lly lcy Ly fay fly fcy fny Fy ey keyy hky) rfl HX.out rfl HY.out
        clear FX F1 HX HY
        obtain ⟨hf1, hf2⟩ := hf
        have hl4 := lv_len hf1
        have HF1 := Lib.hid hf1
        have HF2 := Lib.hid hf2
        clear hf1 hf2
        have g2 : (ll : Int) ≤ 4095 := by omega
        clear g1 hlen1 hlen2
        have HG := Lib.hid hl4
        clear hl4
        have HW : Hid (IntKind.i64.wrap ((ll : Int) + 1) = (ll : Int) + 1) := IntWalk.i64_in _ (by omega)
        obtain ⟨d0, d1, d2, d3, d4, d5, d6, d7⟩ := at8z (OK.out.boxes _ (.head _)).2.1
        have DL := Lib.hid (fun (sb : Nat) (W : World) (ha : At W sb 0 [.int .u8 ky, .int .i64 ny, .string sy, .slice lay lly lcy, .slice fay fly fcy, .int .u8 ey, .string keyy, .bool hky]) (h : LX w la ll lc L ((py, (.mk ky ny sy lay lly lcy Ly fay fly fcy fny Fy ey keyy hky)) :: (px, (.mk kx nx sx lax llx lcx Lx fax flx fcx fnx Fx ex keyx hkx)) :: [(w.heap.size, (.mk k n s va vl vc VL fa fl fc fn F e key hk))]) W) => doLen_at (y := (.mk ky ny sy lay lly lcy Ly fay fly fcy fny Fy ey keyy hky)) (z := (ll : Int) + 1) ha h.tabs (h.boxes _ (.head _)).2.2 HF1.out HF2.out (by omega))
        have DA := Lib.hid (fun (i : Nat) (z : Int) (x : V) (hz : (i : Int) = z) (hi : z ≤ 9223372036854775807) (hx : (if i < ll + 1 then snocV ll L (.mk k n s va vl vc VL fa fl fc fn F e key hk) i else nv) = x) (sb : Nat) (W : World) (ha : At W sb 0 [.int .u8 ky, .int .i64 ny, .string sy, .slice lay lly lcy, .slice fay fly fcy, .int .u8 ey, .string keyy, .bool hky, .int .u8 1, .int .i64 z, .string ⟨#[]⟩, .slice none 0 0, .slice none 0 0, .int .u8 0, .string ⟨#[]⟩, .bool false]) (ht : Tabs W) (hy : V.In W (.mk ky ny sy lay lly lcy Ly fay fly fcy fny Fy ey keyy hky)) => doAt_at (y := (.mk ky ny sy lay lly lcy Ly fay fly fcy fny Fy ey keyy hky)) (z := z) (i := i) (x := x) ha ht hy HF1.out HF2.out hz hi hx)
        clear HF1 HF2
        go_upto_region 8 with (go_at_call 8; (with_reducible refine (DL.out _ _ (at_new rfl (Below.refl _ _)) (OK.out.alloc _)).mono ?_); rintro q w1 ⟨un, rfl, hi, hy, hb⟩; have HY := Lib.hid hy; have HI := Lib.hid hi; replace OK := Lib.hid (OK.out.below (below_al hb)); clear hy hb; rcases un with _ | ⟨kn, nn, sn, lan, lln, lcn, Ln, fan, fln, fcn, fnn, Fn, en, keyn, hkn⟩; (exact hi.elim); clear hi; simp only [V.agg, V.cells])
        obtain rfl : (ll : Int) + 1 = nn := (same_parts HY.out).2.1.symm
        replace OK := Lib.hid (OK.out.push (T := 27) HI.out)
        have hfix : LX w la ll lc L ((w1.heap.size, (.mk kn ((ll : Int) + 1) sn lan lln lcn Ln fan fln fcn fnn Fn en keyn hkn)) :: ((py, (.mk ky ny sy lay lly lcy Ly fay fly fcy fny Fy ey keyy hky)) :: (px, (.mk kx nx sx lax llx lcx Lx fax flx fcx fnx Fx ex keyx hkx)) :: [(w.heap.size, (.mk k n s va vl vc VL fa fl fc fn F e key hk))])) (w1.alloc (.cells #[.int .u8 kn, .int .i64 (↑ll + 1), .string sn, .slice lan lln lcn, .slice fan fln fcn, .int .u8 en, .string keyn, .bool hkn] 27)) := OK.out
        clear HI OK HY DL d0 d1 d2 d3 d4 d5 d6 d7
        revert hfix
        generalize w1.alloc (.cells #[.int .u8 kn, .int .i64 (↑ll + 1), .string sn, .slice lan lln lcn, .slice fan fln fcn, .int .u8 en, .string keyn, .bool hkn] 27) = W3
        generalize w1.heap.size = pn
        intro hfix
        have OK := Lib.hid hfix
        clear hfix
        have D8 := Lib.hid (fun (sb : Nat) (W : World) ha (h : LX w la ll lc L ((pn, (.mk kn ((ll : Int) + 1) sn lan lln lcn Ln fan fln fcn fnn Fn en keyn hkn)) :: ((py, (.mk ky ny sy lay lly lcy Ly fay fly fcy fny Fy ey keyy hky)) :: (px, (.mk kx nx sx lax llx lcx Lx fax flx fcx fnx Fx ex keyx hkx)) :: [(w.heap.size, (.mk k n s va vl vc VL fa fl fc fn F e key hk))])) W) => DA.out ll (ll : Int) (.mk k n s va vl vc VL fa fl fc fn F e key hk) rfl (by omega) (by simp [snocV]) sb W ha h.tabs (h.boxes _ (.tail _ (.head _))).2.2)
        go_cut [11, 12] (fun z11 z12 wx => ∃ p : Nat, z11 = .pointer (some ⟨p, 0, none⟩) ∧ BoxCut w la ll lc L ((pn, (.mk kn ((ll : Int) + 1) sn lan lln lcn Ln fan fln fcn fnn Fn en keyn hkn)) :: ((py, (.mk ky ny sy lay lly lcy Ly fay fly fcy fny Fy ey keyy hky)) :: (px, (.mk kx nx sx lax llx lcx Lx fax flx fcx fnx Fx ex keyx hkx)) :: [(w.heap.size, (.mk k n s va vl vc VL fa fl fc fn F e key hk))])) (.mk k n s va vl vc VL fa fl fc fn F e key hk) z12 p wx)
        case first =>
          obtain ⟨c0, c1, c2, c3, c4, c5, c6, c7⟩ := at8z (OK.out.boxes _ (.tail _ (.head _))).2.1; obtain ⟨d0, d1, d2, d3, d4, d5, d6, d7⟩ := at8z ((OK.out.alloc (.cells #[.int .u8 0, .int .i64 0, .string ⟨#[]⟩, .slice none 0 0, .slice none 0 0, .int .u8 0, .string ⟨#[]⟩, .bool false] 27)).boxes _ (.tail _ (.head _))).2.1
          have hw := HW.out
          go_region_with (first
            | (go_at_call 7; (with_reducible refine (number_fl _ _).mono ?_); rintro q w1 ⟨rfl, hb1⟩; (first | (have hz1 := Lib.hid (zb_T hb1)) | skip); (first | (have HLa := Lib.hid (dr_low2 hb1)) | (have HLa := Lib.hid (dr_low hb1))); (have OK1 := Lib.hid (OK.out.below HLa.out)); clear hb1; clear c0 c1 c2 c3 c4 c5 c6 c7 d0 d1 d2 d3 d4 d5 d6 d7; obtain ⟨c0, c1, c2, c3, c4, c5, c6, c7⟩ := at8z (OK1.out.boxes _ (.tail _ (.head _))).2.1; obtain ⟨d0, d1, d2, d3, d4, d5, d6, d7⟩ := at8z ((OK1.out.alloc (.cells #[.int .u8 0, .int .i64 0, .string ⟨#[]⟩, .slice none 0 0, .slice none 0 0, .int .u8 0, .string ⟨#[]⟩, .bool false] 27)).boxes _ (.tail _ (.head _))).2.1)
            | (go_at_call 8; (first
                | (with_reducible refine (D8.out _ _ (at_new rfl (Below.refl _ _)) (OK1.out.alloc _)).mono ?_)
                | (with_reducible refine (D8.out _ _ (at_new (by simp) (Below.refl _ _)) ((OK1.out.alloc _).alloc _)).mono ?_)
                | (with_reducible refine (D8.out _ _ (At.below (below_alloc _ _) (at_new rfl (Below.refl _ _))) ((OK1.out.alloc _).alloc _)).mono ?_)); rintro q w2 ⟨uu, rfl, hin, hsm, hfr, hb2⟩; (have HF := Lib.hid hfr); (have HI := Lib.hid hin); (have HM := Lib.hid hsm); (first | (have hz2 := Lib.hid (zb_B hb2)) | (have hz2 := Lib.hid (zb_C hb2)) | (have hz2 := Lib.hid (hz1.out.below (below_al hb2))) | skip); (first | (have HLb := Lib.hid (below_al (below_al hb2))) | (have HLb := Lib.hid (below_al hb2))); (have OK2 := Lib.hid (OK1.out.below HLb.out)); clear hsm hfr hb2; rcases uu with _ | ⟨k', n', s', la', ll', lc', L', fa', fl', fc', fn', F', e', key', hk'⟩; (exact hin.elim); clear hin; simp only [V.agg, V.cells]; (first | (obtain ⟨⟨y0, y1, y2, y3, y4, y5, y6, y7⟩, z0', z1', z2', z3', z4', z5', z6', z7'⟩ := hz2.out.slots) | skip)))
          all_goals go_wp2_with fail
          all_goals go_meet
          all_goals (refine ⟨_, rfl, ?_⟩)
          all_goals first
          | (with_reducible exact boxcut_alloc8 OK2.out HI.out HM.out)
          | (with_reducible exact boxcut_store8 OK1.out HLb.out (Nat.le_refl _) hz2.out HF.out (by simp <;> omega) HI.out HM.out)
          | (with_reducible exact boxcut_store8 OK1.out HLb.out (Nat.le_succ _) hz2.out HF.out (by simp <;> omega) HI.out HM.out)
          | (with_reducible exact boxcut_store8 OK.out (HLa.out.trans (HLb.out.mono HLa.out.size)) (Nat.le_refl _) hz2.out HF.out (by have := hz1.out.lt'; simp; omega) HI.out HM.out)
        case rest =>
          clear OK D8
          obtain ⟨pl, rfl, ul, rfl, hsl, hok⟩ := hcut
          have OK := Lib.hid hok
          have hin := (hok.boxes _ (.head _)).2.2
          rcases ul with _ | ⟨kl', nl', sl', lal', lll', lcl', Ll', fal', fll', fcl', fnl', Fl', el', keyl', hkl'⟩
          · exact hin.elim
          clear hin hok
          have HSL := Lib.hid ((same_symm _ _).trans hsl)
          clear hsl
          have D9 := Lib.hid (fun (sb : Nat) (W : World) ha (h : LX w la ll lc L ((pl, (.mk kl' nl' sl' lal' lll' lcl' Ll' fal' fll' fcl' fnl' Fl' el' keyl' hkl')) :: ((pn, (.mk kn ((ll : Int) + 1) sn lan lln lcn Ln fan fln fcn fnn Fn en keyn hkn)) :: ((py, (.mk ky ny sy lay lly lcy Ly fay fly fcy fny Fy ey keyy hky)) :: (px, (.mk kx nx sx lax llx lcx Lx fax flx fcx fnx Fx ex keyx hkx)) :: [(w.heap.size, (.mk k n s va vl vc VL fa fl fc fn F e key hk))]))) W) => DA.out (ll + 1) ((ll : Int) + 1) nv (by omega) (by omega) (by simp) sb W ha h.tabs (h.boxes _ (.tail _ (.tail _ (.head _)))).2.2)
          go_upto_region 9 with fail
          go_cut [13, 14] (fun z13 z14 wx => ∃ p : Nat, z13 = .pointer (some ⟨p, 0, none⟩) ∧ BoxCut w la ll lc L ((pl, (.mk kl' nl' sl' lal' lll' lcl' Ll' fal' fll' fcl' fnl' Fl' el' keyl' hkl')) :: ((pn, (.mk kn ((ll : Int) + 1) sn lan lln lcn Ln fan fln fcn fnn Fn en keyn hkn)) :: ((py, (.mk ky ny sy lay lly lcy Ly fay fly fcy fny Fy ey keyy hky)) :: (px, (.mk kx nx sx lax llx lcx Lx fax flx fcx fnx Fx ex keyx hkx)) :: [(w.heap.size, (.mk k n s va vl vc VL fa fl fc fn F e key hk))]))) nv z14 p wx)
          case first =>
            obtain ⟨c0, c1, c2, c3, c4, c5, c6, c7⟩ := at8z (OK.out.boxes _ (.tail _ (.tail _ (.head _)))).2.1; obtain ⟨d0, d1, d2, d3, d4, d5, d6, d7⟩ := at8z ((OK.out.alloc (.cells #[.int .u8 0, .int .i64 0, .string ⟨#[]⟩, .slice none 0 0, .slice none 0 0, .int .u8 0, .string ⟨#[]⟩, .bool false] 27)).boxes _ (.tail _ (.tail _ (.head _)))).2.1
            have hw := HW.out
            go_region_with (first
              | (go_at_call 7; (with_reducible refine (number_fl _ _).mono ?_); rintro q w1 ⟨rfl, hb1⟩; (first | (have hz1 := Lib.hid (zb_T hb1)) | skip); (first | (have HLa := Lib.hid (dr_low2 hb1)) | (have HLa := Lib.hid (dr_low hb1))); (have OK1 := Lib.hid (OK.out.below HLa.out)); clear hb1; clear c0 c1 c2 c3 c4 c5 c6 c7 d0 d1 d2 d3 d4 d5 d6 d7; obtain ⟨c0, c1, c2, c3, c4, c5, c6, c7⟩ := at8z (OK1.out.boxes _ (.tail _ (.tail _ (.head _)))).2.1; obtain ⟨d0, d1, d2, d3, d4, d5, d6, d7⟩ := at8z ((OK1.out.alloc (.cells #[.int .u8 0, .int .i64 0, .string ⟨#[]⟩, .slice none 0 0, .slice none 0 0, .int .u8 0, .string ⟨#[]⟩, .bool false] 27)).boxes _ (.tail _ (.tail _ (.head _)))).2.1)
              | (go_at_call 8; (first
                  | (with_reducible refine (D9.out _ _ (at_new rfl (Below.refl _ _)) (OK1.out.alloc _)).mono ?_)
                  | (with_reducible refine (D9.out _ _ (at_new (by simp) (Below.refl _ _)) ((OK1.out.alloc _).alloc _)).mono ?_)
                  | (with_reducible refine (D9.out _ _ (At.below (below_alloc _ _) (at_new rfl (Below.refl _ _))) ((OK1.out.alloc _).alloc _)).mono ?_)); rintro q w2 ⟨uu, rfl, hin, hsm, hfr, hb2⟩; (have HF := Lib.hid hfr); (have HI := Lib.hid hin); (have HM := Lib.hid hsm); (first | (have hz2 := Lib.hid (zb_B hb2)) | (have hz2 := Lib.hid (zb_C hb2)) | (have hz2 := Lib.hid (hz1.out.below (below_al hb2))) | skip); (first | (have HLb := Lib.hid (below_al (below_al hb2))) | (have HLb := Lib.hid (below_al hb2))); (have OK2 := Lib.hid (OK1.out.below HLb.out)); clear hsm hfr hb2; rcases uu with _ | ⟨k', n', s', la', ll', lc', L', fa', fl', fc', fn', F', e', key', hk'⟩; (exact hin.elim); clear hin; simp only [V.agg, V.cells]; (first | (obtain ⟨⟨y0, y1, y2, y3, y4, y5, y6, y7⟩, z0', z1', z2', z3', z4', z5', z6', z7'⟩ := hz2.out.slots) | skip)))
            all_goals go_wp2_with fail
            all_goals go_meet
            all_goals (refine ⟨_, rfl, ?_⟩)
            all_goals first
            | (with_reducible exact boxcut_alloc8 OK2.out HI.out HM.out)
            | (with_reducible exact boxcut_store8 OK1.out HLb.out (Nat.le_refl _) hz2.out HF.out (by simp <;> omega) HI.out HM.out)
            | (with_reducible exact boxcut_store8 OK1.out HLb.out (Nat.le_succ _) hz2.out HF.out (by simp <;> omega) HI.out HM.out)
            | (with_reducible exact boxcut_store8 OK.out (HLa.out.trans (HLb.out.mono HLa.out.size)) (Nat.le_refl _) hz2.out HF.out (by have := hz1.out.lt'; simp; omega) HI.out HM.out)
          case rest =>
            clear OK D9
            obtain ⟨pm, rfl, um, rfl, hsm, hok⟩ := hcut
            have OK := Lib.hid hok
            have hin := (hok.boxes _ (.head _)).2.2
            rcases um with _ | ⟨km, nm, sm, lam, llm, lcm, Lm, fam, flm, fcm, fnm, Fm, em, keym, hkm⟩
            · exact hin.elim
            clear hin hok
            obtain rfl : (0 : Int) = km := (same_parts hsm).1.symm
            clear hsm
            have CS := Lib.hid (same_calls (OK.out.boxes _ (.tail _ (.head _))).2.2 (OK.out.boxes _ (.tail _ (.tail _ (.tail _ (.tail _ (.tail _ (.head _))))))).2.2 HSL.out)
            simp only [V.agg, V.cells] at CS
            obtain ⟨a0, a1, a2, a3, a4, a5, a6, a7⟩ := at8z (OK.out.boxes _ (.tail _ (.head _))).2.1
            obtain ⟨c0, c1, c2, c3, c4, c5, c6, c7⟩ := at8z (OK.out.boxes _ (.tail _ (.tail _ (.tail _ (.tail _ (.tail _ (.head _))))))).2.1
            have x1 := (at8z (OK.out.boxes _ (.tail _ (.tail _ (.head _)))).2.1).2.1
            have hw := HW.out
            go_upto_region 12 with (go_at_call 15; (with_reducible refine (CS.out _ ?_).mono ?_); (first | exact Below.refl _ _ | exact (Below.refl _ _).drew); rintro q w1 ⟨rfl, hb1⟩; (first | replace OK := Lib.hid (OK.out.drew.below hb1) | replace OK := Lib.hid (OK.out.below hb1)); clear hb1; have x2 := (at8z (OK.out.boxes _ (.head _)).2.1).1)
            have hok := OK.out.tail.tail.tail
            clear OK CS a0 a1 a2 a3 a4 a5 a6 a7 c0 c1 c2 c3 c4 c5 c6 c7 x1 x2 HSL hw
            have OK := Lib.hid hok
            clear hok
            go_wp2_with fail
            go_loopw [15] (fun i wr => ∃ j : Nat, j ≤ ll ∧ i = .int .i64 j ∧ LX w la ll lc L ((py, (.mk ky ny sy lay lly lcy Ly fay fly fcy fny Fy ey keyy hky)) :: (px, (.mk kx nx sx lax llx lcx Lx fax flx fcx fnx Fx ex keyx hkx)) :: [(w.heap.size, (.mk k n s va vl vc VL fa fl fc fn F e key hk))]) wr) (fun i _ => ll - (intOf i).toNat)
            case atStart => exact ⟨0, Nat.zero_le _, rfl, OK.out⟩
            case round =>
              clear OK
              obtain ⟨i, hi, rfl, ok⟩ := hrel
              have OK := Lib.hid ok
              clear ok
              by_cases hlt : i < ll
              case neg =>
                obtain rfl : i = ll := by omega
                clear hlt
                go_wp2_with fail
                go_ret
                exact ⟨rfl, OK.out.low⟩
              by_cases h50 : i < 50
              case neg =>
                have g50 : ¬ (i : Int) < 50 := by omega
                have glt : (i : Int) < (ll : Int) := by omega
                go_wp2_with fail
                go_ret
                exact ⟨rfl, OK.out.low⟩
              have g50 : (i : Int) < 50 := by omega
              have glt : (i : Int) < (ll : Int) := by omega
              obtain ⟨⟨bl, ol, rfl, -⟩, -⟩ := OK.out.vals.el i hlt
              obtain ⟨vi, hvi⟩ : ∃ x, L i = x := ⟨_, rfl⟩
              have D15 := Lib.hid (fun (sb : Nat) (W : World) ha (h : LX w (some ⟨bl, ol, none⟩) ll lc L ((py, (.mk ky ny sy lay lly lcy Ly fay fly fcy fny Fy ey keyy hky)) :: (px, (.mk kx nx sx lax llx lcx Lx fax flx fcx fnx Fx ex keyx hkx)) :: [(w.heap.size, (.mk k n s va vl vc VL fa fl fc fn F e key hk))]) W) => DA.out i (i : Int) vi rfl (by omega) (by simp [snocV, hlt, hvi]; omega) sb W ha h.tabs (h.boxes _ (.head _)).2.2)
              go_upto_region 15 with fail
              go_cut [16, 17] (fun z16 z17 wx => ∃ p : Nat, z16 = .pointer (some ⟨p, 0, none⟩) ∧ BoxCut w (some ⟨bl, ol, none⟩) ll lc L ((py, (.mk ky ny sy lay lly lcy Ly fay fly fcy fny Fy ey keyy hky)) :: (px, (.mk kx nx sx lax llx lcx Lx fax flx fcx fnx Fx ex keyx hkx)) :: [(w.heap.size, (.mk k n s va vl vc VL fa fl fc fn F e key hk))]) vi z17 p wx)
              case first =>
                obtain ⟨c0, c1, c2, c3, c4, c5, c6, c7⟩ := at8z (OK.out.boxes _ (.head _)).2.1; obtain ⟨d0, d1, d2, d3, d4, d5, d6, d7⟩ := at8z ((OK.out.alloc (.cells #[.int .u8 0, .int .i64 0, .string ⟨#[]⟩, .slice none 0 0, .slice none 0 0, .int .u8 0, .string ⟨#[]⟩, .bool false] 27)).boxes _ (.head _)).2.1
                have hw := HW.out
                go_region_with (first
                  | (go_at_call 7; (with_reducible refine (number_fl _ _).mono ?_); rintro q w1 ⟨rfl, hb1⟩; (first | (have hz1 := Lib.hid (zb_T hb1)) | skip); (first | (have HLa := Lib.hid (dr_low2 hb1)) | (have HLa := Lib.hid (dr_low hb1))); (have OK1 := Lib.hid (OK.out.below HLa.out)); clear hb1; clear c0 c1 c2 c3 c4 c5 c6 c7 d0 d1 d2 d3 d4 d5 d6 d7; obtain ⟨c0, c1, c2, c3, c4, c5, c6, c7⟩ := at8z (OK1.out.boxes _ (.head _)).2.1; obtain ⟨d0, d1, d2, d3, d4, d5, d6, d7⟩ := at8z ((OK1.out.alloc (.cells #[.int .u8 0, .int .i64 0, .string ⟨#[]⟩, .slice none 0 0, .slice none 0 0, .int .u8 0, .string ⟨#[]⟩, .bool false] 27)).boxes _ (.head _)).2.1)
                  | (go_at_call 8; (first
                      | (with_reducible refine (D15.out _ _ (at_new rfl (Below.refl _ _)) (OK1.out.alloc _)).mono ?_)
                      | (with_reducible refine (D15.out _ _ (at_new (by simp) (Below.refl _ _)) ((OK1.out.alloc _).alloc _)).mono ?_)
                      | (with_reducible refine (D15.out _ _ (At.below (below_alloc _ _) (at_new rfl (Below.refl _ _))) ((OK1.out.alloc _).alloc _)).mono ?_)); rintro q w2 ⟨uu, rfl, hin, hsm, hfr, hb2⟩; (have HF := Lib.hid hfr); (have HI := Lib.hid hin); (have HM := Lib.hid hsm); (first | (have hz2 := Lib.hid (zb_B hb2)) | (have hz2 := Lib.hid (zb_C hb2)) | (have hz2 := Lib.hid (hz1.out.below (below_al hb2))) | skip); (first | (have HLb := Lib.hid (below_al (below_al hb2))) | (have HLb := Lib.hid (below_al hb2))); (have OK2 := Lib.hid (OK1.out.below HLb.out)); clear hsm hfr hb2; rcases uu with _ | ⟨k', n', s', la', ll', lc', L', fa', fl', fc', fn', F', e', key', hk'⟩; (exact hin.elim); clear hin; simp only [V.agg, V.cells]; (first | (obtain ⟨⟨y0, y1, y2, y3, y4, y5, y6, y7⟩, z0', z1', z2', z3', z4', z5', z6', z7'⟩ := hz2.out.slots) | skip)))
                all_goals go_wp2_with fail
                all_goals go_meet
                all_goals (refine ⟨_, rfl, ?_⟩)
                all_goals first
                | (with_reducible exact boxcut_alloc8 OK2.out HI.out HM.out)
                | (with_reducible exact boxcut_store8 OK1.out HLb.out (Nat.le_refl _) hz2.out HF.out (by simp <;> omega) HI.out HM.out)
                | (with_reducible exact boxcut_store8 OK1.out HLb.out (Nat.le_succ _) hz2.out HF.out (by simp <;> omega) HI.out HM.out)
                | (with_reducible exact boxcut_store8 OK.out (HLa.out.trans (HLb.out.mono HLa.out.size)) (Nat.le_refl _) hz2.out HF.out (by have := hz1.out.lt'; simp; omega) HI.out HM.out)
              case rest =>
                clear OK D15
                obtain ⟨pw, rfl, uw, rfl, hsw, hok⟩ := hcut
                have OK := Lib.hid hok
                have hin := (hok.boxes _ (.head _)).2.2
                rcases uw with _ | ⟨kw, nw, sw, law, llw, lcw, Lw, faw, flw, fcw, fnw, Fw, ew, keyw, hkw⟩
                · exact hin.elim
                have hvin := (hok.vals.el i hlt).2
                rw [hvi] at hvin
                have hvat := vals_at hok.vals hlt
                rw [hvi] at hvat
                have CS := Lib.hid (same_calls hin hvin ((same_symm _ _).trans hsw))
                clear hsw hok hvi hin
                rcases vi with _ | ⟨kv, nv, sv, lav, llv, lcv, Lv, fav, flv, fcv, fnv, Fv, ev, keyv, hkv⟩
                · exact hvin.elim
                clear hvin
                simp only [V.agg, V.cells] at CS
                obtain ⟨a0, a1, a2, a3, a4, a5, a6, a7⟩ := at8z (OK.out.boxes _ (.head _)).2.1
                obtain ⟨c0, c1, c2, c3, c4, c5, c6, c7⟩ := at8o hvat
                clear hvat
                go_upto_region 16 with fail
                go_region_with (go_at_call 15; (with_reducible refine (CS.out _ ?_).mono ?_); (first | exact Below.refl _ _ | exact (Below.refl _ _).drew); rintro q w1 ⟨rfl, hb1⟩; (first | replace OK := Lib.hid (OK.out.drew.below hb1) | replace OK := Lib.hid (OK.out.below hb1)); clear hb1)
                all_goals go_wp2_with fail
                all_goals refine ⟨⟨i + 1, hlt, by go_num, OK.out.tail⟩, by simp [intOf]; omega⟩
end Go.Proofs.YtjbapldlgnlepaaDoor
