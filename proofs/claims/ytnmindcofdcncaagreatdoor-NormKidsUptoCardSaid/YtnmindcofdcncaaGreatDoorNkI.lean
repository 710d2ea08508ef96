/-
  Walks: walk.through and its closure: the values that are no lists are yielded one by one, each with its place ('thr_in'), against whatever loop.
  Conditions: the list lies in old memory.
-/
import Derived.Test.YtnmindcofdcncaaGreatDoorNkT
import Derived.RangeFuncBox
import Derived.RangeFuncLeaves
import Derived.WalkKit
import Derived.OwnWalkIn
import Derived.TacticsInMore
import Derived.LoopNIn
import Derived.LoopIn
import Derived.RangeFuncBound
import Derived.Maps.AppendAt
import Derived.Stop.RegionWithIn
namespace Go.Proofs.YtnmindcofdcncaaGreatDoor
set_option linter.unusedVariables false
set_option linter.unusedSimpArgs false
open Go.RowKit Go.Deep Go.WideShapes
structure El where
  b : Nat
  o : Nat
  v : V
def El.ptr (x : El) : Value := .pointer (some ⟨x.b, x.o, none⟩)
def adB : Option Addr → Nat
  | some a => a.block
  | none => 0
def adO : Option Addr → Nat
  | some a => a.off
  | none => 0
def V.flatA : V → Nat → Nat → List El
  | .leaf, _, _ => []
  | .mk k n s la ll lc L fa fl fc fn F e key hk, b, o =>
    if k = 4 then (List.range ll).flatMap (fun i => (L i).flatA (adB la) (adO la + i * 8)) else [⟨b, o, .mk k n s la ll lc L fa fl fc fn F e key hk⟩]
def listA (la : Option Addr) (L : Nat → V) (j : Nat) : List El := (List.range j).flatMap (fun i => (L i).flatA (adB la) (adO la + i * 8))
theorem listA_zero (la : Option Addr) (L : Nat → V) : listA la L 0 = [] := rfl
theorem listA_succ (la : Option Addr) (L : Nat → V) (j : Nat) : listA la L (j + 1) = listA la L j ++ (L j).flatA (adB la) (adO la + j * 8) := by
  unfold listA
  rw [List.range_succ, List.flatMap_append]
  simp
theorem listA_pre (la : Option Addr) (L : Nat → V) {j n : Nat} (h : j ≤ n) : listA la L j <+: listA la L n := by
  induction h with
  | refl => exact List.prefix_refl _
  | step _ ih => rw [listA_succ]; exact ih.trans (List.prefix_append _ _)
theorem room_wide' (k : Nat) : Fence.wide.room k := fun d h => by cases h
theorem YieldAt.any {m : Nat} (m' : Nat) {P : Program} {l : Nat} {args : Array Value} {W : World} {R : Ending → World → Prop} (h : YieldAt Fence.wide m P l args W R) : YieldAt Fence.wide m' P l args W R := by
  obtain ⟨fn, tmps, assign, body, hy, hR⟩ := h
  exact ⟨fn, tmps, assign, body, hy, hR.1, fun c cs _ => hR.2 c cs (room_wide' _)⟩
structure Kx (O : World → Nat → Prop) (n₀ Bw : Nat) (W W' : World) : Prop where
  low : Below n₀ W W'
  size : W.heap.size ≤ W'.heap.size
  keep : ∀ g, g < W.heap.size → ¬ O W g → g ≠ Bw → W'.heap[g]? = W.heap[g]?
  own : ∀ g, O W' g → O W g ∨ W.heap.size ≤ g
theorem Kx.refl {O : World → Nat → Prop} {n₀ Bw : Nat} {W : World} : Kx O n₀ Bw W W := ⟨Below.refl _ _, Nat.le_refl _, fun _ _ _ _ => rfl, fun _ h => .inl h⟩
theorem Kx.trans {O : World → Nat → Prop} {n₀ Bw : Nat} {A B D : World} (h : Kx O n₀ Bw A B) (k : Kx O n₀ Bw B D) : Kx O n₀ Bw A D :=
  ⟨h.low.trans k.low, Nat.le_trans h.size k.size, fun g hg ho hb => (k.keep g (Nat.lt_of_lt_of_le hg h.size) (fun q => (h.own g q).elim ho (fun q => absurd hg (by omega))) hb).trans (h.keep g hg ho hb),
   fun g q => (k.own g q).elim (h.own g) (fun q => .inr (Nat.le_trans h.size q))⟩
theorem Kx.cell {O : World → Nat → Prop} {n₀ Bw : Nat} {A B : World} (h : Kx O n₀ Bw A B) {g j : Nat} {u : Value} (ho : ¬ O A g) (hb : g ≠ Bw) (hc : A.cell? ⟨g, j, none⟩ = some u) : B.cell? ⟨g, j, none⟩ = some u := by
  rw [World.cell?_of_block (a := ⟨g, j, none⟩) (h.keep g (World.block_lt_of_cell? _ _ hc) ho hb)]
  exact hc
theorem Kx.no {O : World → Nat → Prop} {n₀ Bw : Nat} {A B : World} (h : Kx O n₀ Bw A B) {g : Nat} (hg : g < A.heap.size) (ho : ¬ O A g) : ¬ O B g := fun q => (h.own g q).elim ho (fun q => by omega)
def Way (Bw : Nat) (p : Int) (ov : Bool) (W : World) : Prop := W.heap[Bw]? = some (.cells #[.int .i64 p, .bool ov] 66 (0, 0))
theorem Way.cells {Bw : Nat} {p : Int} {ov : Bool} {W : World} (h : Way Bw p ov W) : W.cell? ⟨Bw, 0, none⟩ = some (.int .i64 p) ∧ W.cell? ⟨Bw, 1, none⟩ = some (.bool ov) ∧ (∀ j, W.frozen? ⟨Bw, j, none⟩ = false) := by
  unfold Way at h
  exact ⟨by rw [Lib.cell_of_heap h]; rfl, by rw [Lib.cell_of_heap h]; rfl, fun j => Lib.frozen_of_heap h j⟩
theorem Way.set0 {Bw : Nat} {p q : Int} {ov : Bool} {W : World} (h : Way Bw p ov W) : Way Bw q ov (W.setCell ⟨Bw, 0, none⟩ (.int .i64 q)) := by
  unfold Way at h ⊢
  have hlt := (Array.getElem?_eq_some_iff.1 h).1
  simp only [World.setCell, Array.getElem?_modify]
  rw [h]; simp
theorem Way.set1 {Bw : Nat} {p : Int} {ov q : Bool} {W : World} (h : Way Bw p ov W) : Way Bw p q (W.setCell ⟨Bw, 1, none⟩ (.bool q)) := by
  unfold Way at h ⊢
  simp only [World.setCell, Array.getElem?_modify]
  rw [h]; simp
set_option maxHeartbeats 1000000 in
theorem through_any (Bw : Nat) (v : Value) (w : World) (hv : ∃ a n c, v = .slice a n c) : Calls Tryz.prog 16 #[.pointer (some ⟨Bw, 0, none⟩), v] w fun e w' =>
    e = .returned (.func (.func 79) #[] #[.pointer (some ⟨w.heap.size + 1, 0, none⟩), .pointer (some ⟨w.heap.size, 0, none⟩)]) ∧
    w' = (w.alloc (.cells #[.pointer (some ⟨Bw, 0, none⟩)] 64)).alloc (.cells #[v] 22) := by
  obtain ⟨a, n, c, rfl⟩ := hv
  go_enter Tryz.func16, Tryz.ntmps16
  go_wp2_with fail
  go_ret
  exact ⟨rfl, rfl⟩
def ThrPost (O : World → Nat → Prop) (J Jx : List El → World → Prop) (T : List El) (n₀ Bw : Nat) (W : World) (all : List El) (W' : World) : Prop :=
  Kx O n₀ Bw W W' ∧ ((J all W' ∧ Way Bw (wrap64 all.length) false W') ∨ ∃ q, q <+: T ∧ Jx q W' ∧ ∃ p, Way Bw p true W')
theorem below_drew (w : World) : Below w.heap.size w w.drew := (Below.refl _ _).drew
theorem wrap_succ (d : Nat) : wrap64 (wrap64 d + 1) = wrap64 ((d + 1 : Nat) : Int) := by unfold wrap64; omega
theorem grown_set0 (W : World) (b k : Nat) (u : Value) : W.grownBy (W.setCell ⟨b, k, none⟩ u) (some b) :=
  ⟨rfl, rfl, rfl, by simp, fun i _ hi => by simp only [World.setCell, Array.getElem?_modify]; rw [if_neg (fun h => hi (by rw [h]))]⟩
theorem Kx.grown {O : World → Nat → Prop} {n₀ Bw : Nat} {A B : World} (h : A.grownBy B (some Bw)) (hn : n₀ ≤ Bw) (hs : n₀ ≤ A.heap.size) (ho : ∀ g, O B g → O A g) : Kx O n₀ Bw A B :=
  ⟨(Below.refl _ _).grown h hs (fun k e => by cases e; exact hn), h.size, fun g hg _ hb => h.block g hg (fun e => hb (by cases e; rfl)), fun g q => .inl (ho g q)⟩
theorem thr_one {w0 : World} {Bw : Nat} {O : World → Nat → Prop} {J Jx : List El → World → Prop} {T A : List El} (hBw0 : w0.heap.size ≤ Bw)
    (hJ : ∀ pre W W', J pre W → W.grownBy W' (some Bw) → J pre W' ∧ ∀ g, O W' g → O W g)
    (hJx : ∀ pre W W', Jx pre W → W.grownBy W' (some Bw) → Jx pre W' ∧ ∀ g, O W' g → O W g)
    {W w3 w5 w6 : World} {r : Bool} {pl : Nat} (hs : w0.heap.size ≤ W.heap.size) (hk : Kx O w0.heap.size Bw W w3) (h1 : r = true → J A w3) (h0 : r = false → Jx A w3) (hA : A <+: T) (hl : A.length = pl + 1)
    (g5 : w3.grownBy w5 (some Bw)) (g6 : w5.grownBy w6 (some Bw)) (hw : Way Bw (wrap64 ((pl + 1 : Nat) : Int)) (!r) w6) : ThrPost O J Jx T w0.heap.size Bw W A w6 := by
  cases r with
  | true =>
    have a5 := hJ _ _ _ (h1 rfl) g5
    have a6 := hJ _ _ _ a5.1 g6
    have k5 := Kx.grown (n₀ := w0.heap.size) g5 hBw0 (Nat.le_trans hs hk.size) a5.2
    exact ⟨(hk.trans k5).trans (Kx.grown g6 hBw0 (Nat.le_trans (Nat.le_trans hs hk.size) k5.size) a6.2), .inl ⟨a6.1, by rw [hl]; exact hw⟩⟩
  | false =>
    have a5 := hJx _ _ _ (h0 rfl) g5
    have a6 := hJx _ _ _ a5.1 g6
    have k5 := Kx.grown (n₀ := w0.heap.size) g5 hBw0 (Nat.le_trans hs hk.size) a5.2
    exact ⟨(hk.trans k5).trans (Kx.grown g6 hBw0 (Nat.le_trans (Nat.le_trans hs hk.size) k5.size) a6.2), .inr ⟨A, hA, a6.1, _, hw⟩⟩
set_option maxRecDepth 100000 in
set_option maxHeartbeats 4000000 in
theorem thr_in (w0 : World) (l Bw : Nat) (O : World → Nat → Prop) (J Jx : List El → World → Prop) (T : List El) (hBw0 : w0.heap.size ≤ Bw)
    (hO : ∀ pre W, J pre W → (∀ g, O W g → g < W.heap.size) ∧ w0.heap.size ≤ W.heap.size)
    (hJ : ∀ pre W W', J pre W → W.grownBy W' (some Bw) → J pre W' ∧ ∀ g, O W' g → O W g)
    (hJx : ∀ pre W W', Jx pre W → W.grownBy W' (some Bw) → Jx pre W' ∧ ∀ g, O W' g → O W g)
    (hY : ∀ m pre x W, J pre W → (pre ++ [x]) <+: T → YieldAt Fence.wide m Tryz.prog l #[.int .i64 (wrap64 pre.length), x.ptr] W fun e W' => ∃ r, e = .returned (.bool r) ∧ (r = true → J (pre ++ [x]) W') ∧ (r = false → Jx (pre ++ [x]) W') ∧ Kx O w0.heap.size Bw W W' ∧ W'.heap[Bw]? = W.heap[Bw]?) :
    ∀ (v : V) (m Bl Bb : Nat) (pre : List El) (W : World) (k n : Int) (s : ByteArray) (la : Option Addr) (ll lc : Nat) (L : Nat → V) (fa : Option Addr) (fl fc : Nat) (fn : Nat → ByteArray) (F : Nat → V) (e : Int) (key : ByteArray) (hk : Bool),
      1 ≤ m → v = .mk k n s la ll lc L fa fl fc fn F e key hk → v.In w0 → Below w0.heap.size w0 W → J pre W → Way Bw (wrap64 pre.length) false W → (pre ++ listA la L ll) <+: T →
      W.cell? ⟨Bl, 0, none⟩ = some (.slice la ll lc) → W.cell? ⟨Bb, 0, none⟩ = some (.pointer (some ⟨Bw, 0, none⟩)) → ¬ O W Bl → ¬ O W Bb → Bl ≠ Bw → Bb ≠ Bw → v.Fit →
      CallsIn Fence.wide m Tryz.prog 79 #[.func (.yield l) #[] #[], .pointer (some ⟨Bl, 0, none⟩), .pointer (some ⟨Bb, 0, none⟩)] W fun x W' => (∃ u, x = .returned u) ∧ ThrPost O J Jx T w0.heap.size Bw W (pre ++ listA la L ll) W' := by
  intro v
  induction v with
  | leaf => intro m Bl Bb pre W k n s la ll lc L fa fl fc fn F e key hk hm hv; cases hv
  | mk k n s la ll lc L fa fl fc fn F e key hk ihL ihF =>
  intro m Bl Bb pre W k' n' s' la' ll' lc' L' fa' fl' fc' fn' F' e' key' hk' hm hv hin hb0 hj hway hT hBl hBb hoL hoB hnL hnB hfit
  cases hv
  have HFI := Lib.hid hfit.2.2.1
  have hfit1 := hfit.1
  clear hfit
  refine callsIn_of_wp Tryz.func79 rfl trivial ?_ rfl
  simp only [Tryz.ntmps79, List.size_toArray, List.length_cons, List.length_nil, Nat.reduceAdd, Nat.reduceSub, Array.replicate_succ, Array.replicate_zero, List.push_toArray, List.append_toArray, List.nil_append, List.cons_append]
  have HL := Lib.hid hin.2.2.2.2.2.2.2.1
  have hlc := hin.2.2.2.2.2.1
  clear ihF
  gi_wp2
  gi_loopw [7] (fun i wr => ∃ j : Nat, j ≤ ll ∧ i = .int .i64 j ∧ ThrPost O J Jx T w0.heap.size Bw W (pre ++ listA la L j) wr)
    (fun i _ => ll - (intOf i).toNat)
  case atStart => exact ⟨0, Nat.zero_le _, rfl, Kx.refl, .inl ⟨by rw [listA_zero, List.append_nil]; exact hj, by rw [listA_zero, List.append_nil]; exact hway⟩⟩
  case round =>
    obtain ⟨j, hjl, rfl, hkx, hst⟩ := hrel
    have hBl' := hkx.cell hoL hnL hBl
    have hBb' := hkx.cell hoB hnB hBb
    have hoL' : ¬ O wr Bl := hkx.no (World.block_lt_of_cell? _ _ hBl) hoL
    have hoB' : ¬ O wr Bb := hkx.no (World.block_lt_of_cell? _ _ hBb) hoB
    have hbr : Below w0.heap.size w0 wr := hb0.trans hkx.low
    have HKX := Lib.hid hkx
    by_cases hlt : j < ll
    · have hlt' : (j : Int) < (ll : Int) := by omega
      have hj0 : (0 : Int) ≤ (j : Int) := by omega
      rcases hst with ⟨hJ1, hw1⟩ | ⟨q, hq, hx1, p, hw1⟩
      · 
        obtain ⟨z0, z1, zf⟩ := hw1.cells
        have HW := Lib.hid hw1
        have HJ1 := Lib.hid hJ1
        obtain ⟨⟨b1, o1, rfl, hat⟩, hin1⟩ := HL.out j hlt
        have hat' : At wr b1 (o1 + j * 8) (L j).cells := At.mono (w := w0) (w' := wr) (fun a ha => hbr.cell ha) hat
        have hpre : pre ++ listA (some ⟨b1, o1, none⟩) L (j + 1) <+: T := (List.prefix_append_right_inj pre |>.2 (listA_pre _ _ (by omega))).trans hT
        obtain ⟨x, hx⟩ : ∃ x, L j = x := ⟨_, rfl⟩
        rw [hx] at hat' hin1
        cases x with
        | leaf => exact hin1.elim
        | mk k3 n3 s3 la3 ll3 lc3 L3 fa3 fl3 fc3 fn3 F3 e3 key3 hk3 =>
        obtain ⟨g0, g1, g2, g3, g4, g5, g6, g7⟩ := at8 hat'
        clear hat hat' g1 g2 g4 g5 g6 g7
        by_cases h4 : k3 = 4
        · subst h4
          have hfl : (L j).flatA b1 (o1 + j * 8) = listA la3 L3 ll3 := by rw [hx]; simp [V.flatA, listA]
          have hsn : pre ++ listA (some ⟨b1, o1, none⟩) L (j + 1) = (pre ++ listA (some ⟨b1, o1, none⟩) L j) ++ listA la3 L3 ll3 := by rw [listA_succ, List.append_assoc]; exact congrArg (fun z => pre ++ (listA (some ⟨b1, o1, none⟩) L j ++ z)) hfl
          have hpl : Bw < wr.heap.size := (Array.getElem?_eq_some_iff.1 hw1).1
          obtain ⟨W1, hW1⟩ : ∃ W1, (wr.drew.alloc (.cells #[.pointer (some ⟨Bw, 0, none⟩)] 64)).alloc (.cells #[.slice la3 ll3 lc3] 22) = W1 := ⟨_, rfl⟩
          have hb1 : Below wr.heap.size wr W1 := by rw [← hW1]; exact (((Below.refl _ _).drew).alloc (Nat.le_refl _) _).alloc (by simp) _
          have hg1 : wr.grownBy W1 (some Bw) := grown_of_below hb1 _
          have hJ2 := hJ _ _ _ hJ1 hg1
          have hw2 : Way Bw (wrap64 ((pre ++ listA (some ⟨b1, o1, none⟩) L j).length)) false W1 := (hb1.block Bw hpl).trans hw1
          have hc1 : W1.cell? ⟨wr.heap.size + 1, 0, none⟩ = some (.slice la3 ll3 lc3) := by
            rw [← hW1]
            have := World.cell?_alloc_new (w := wr.drew.alloc (.cells #[.pointer (some ⟨Bw, 0, none⟩)] 64)) #[.slice la3 ll3 lc3] 22 0
            rw [World.size_alloc] at this
            exact this
          have hc0 : W1.cell? ⟨wr.heap.size, 0, none⟩ = some (.pointer (some ⟨Bw, 0, none⟩)) := by
            rw [← hW1, ((Below.refl (wr.heap.size + 1) (wr.drew.alloc (.cells #[.pointer (some ⟨Bw, 0, none⟩)] 64))).alloc (by simp) _).cell (p := ⟨wr.heap.size, 0, none⟩) (by simp)]
            exact World.cell?_alloc_new (w := wr.drew) #[.pointer (some ⟨Bw, 0, none⟩)] 64 0
          have hno : ∀ g, wr.heap.size ≤ g → ¬ O W1 g := fun g hg q => absurd ((hO _ _ hJ1).1 g (hJ2.2 g q)) (by omega)
          have hkw : Kx O w0.heap.size Bw wr W1 := Kx.grown hg1 hBw0 (hO _ _ hJ1).2 hJ2.2
          have hfj := HFI.out j hlt
          rw [hx] at hfj
          have hih := ihL j 5 (wr.heap.size + 1) wr.heap.size (pre ++ listA (some ⟨b1, o1, none⟩) L j) W1 4 n3 s3 la3 ll3 lc3 L3 fa3 fl3 fc3 fn3 F3 e3 key3 hk3 (by omega) hx (by rw [hx]; exact hin1) (hbr.trans (hb1.mono (hO _ _ hJ1).2)) hJ2.1 hw2 (hsn ▸ hpre) hc1 hc0 (hno _ (by omega)) (hno _ (Nat.le_refl _)) (by omega) (by omega) (by rw [hx]; exact hfj)
          rw [← hsn, ← hW1] at hih
          have HIH := Lib.hid (callsIn_wide.1 hih)
          rw [← hW1] at hkw
          have HKW := Lib.hid hkw
          clear hih ihL hpre hsn hfl HJ1 hJ1 hw1 hT hb1 hg1 hJ2 hw2 hc1 hc0 hno hW1 hpl hkw hfj
          have hf16 : Fence.wide.fn 16 := trivial
          have hf21 : Fence.wide.fn 79 := trivial
          gi_wp2
          gi_region_with (first
            | (gi_at_call 16; refine (callsIn_wide.2 (through_any Bw _ _ ⟨_, _, _, rfl⟩)).mono ?_; rintro e9 w9 ⟨rfl, rfl⟩)
            | (gi_at_call 79; refine (callsIn_wide.2 HIH.out).mono ?_; rintro e9 w9 ⟨⟨u9, rfl⟩, h9⟩; have H9 := Lib.hid h9; clear h9))
          all_goals
            gi_wp2
            refine ⟨⟨j + 1, by omega, by go_num, (HKX.out.trans HKW.out).trans H9.out.1, H9.out.2⟩, by simp [intOf]; omega⟩
        · have h4' : (k3 == 4) = false := by simp [h4]
          have hfl : (L j).flatA b1 (o1 + j * 8) = [⟨b1, o1 + j * 8, L j⟩] := by rw [hx]; simp [V.flatA, h4]
          have hsn : pre ++ listA (some ⟨b1, o1, none⟩) L (j + 1) = (pre ++ listA (some ⟨b1, o1, none⟩) L j) ++ [⟨b1, o1 + j * 8, L j⟩] := by rw [listA_succ, List.append_assoc]; exact congrArg (fun z => pre ++ (listA (some ⟨b1, o1, none⟩) L j ++ z)) hfl
          obtain ⟨fn', tmps, assign, body, hy, hR⟩ := hY (m - 1) _ ⟨b1, o1 + j * 8, L j⟩ wr.drew (hJ _ _ _ hJ1 (grown_of_below (below_drew wr) _)).1 (hsn ▸ hpre)
          clear hY
          simp only [El.ptr] at hy
          have HNO : Hid (¬ O wr.drew Bb ∧ Kx O w0.heap.size Bw wr wr.drew) := by
            have hd := hJ _ _ _ hJ1 (grown_of_below (below_drew wr) (some Bw))
            exact ⟨fun q => hoB' (hd.2 _ q), Kx.grown (grown_of_below (below_drew wr) _) hBw0 (hO _ _ hJ1).2 hd.2⟩
          have HT := Lib.hid hpre
          obtain ⟨pl, hpl⟩ : ∃ pl, pl = (pre ++ listA (some ⟨b1, o1, none⟩) L j).length := ⟨_, rfl⟩
          rw [← hpl] at hy HW z0
          have HPL := Lib.hid hpl
          clear hpl
          have hR2 := hR.mono (R' := fun e9 w3 => ∃ r, e9 = .returned (.bool r) ∧ w3.cell? ⟨Bw, 0, none⟩ = some (.int .i64 (wrap64 pl)) ∧ w3.cell? ⟨Bw, 1, none⟩ = some (.bool false) ∧ (∀ j, w3.frozen? ⟨Bw, j, none⟩ = false) ∧ w3.cell? ⟨Bb, 0, none⟩ = some (.pointer (some ⟨Bw, 0, none⟩)) ∧
              Hid ((r = true → J ((pre ++ listA (some ⟨b1, o1, none⟩) L j) ++ [⟨b1, o1 + j * 8, L j⟩]) w3) ∧ (r = false → Jx ((pre ++ listA (some ⟨b1, o1, none⟩) L j) ++ [⟨b1, o1 + j * 8, L j⟩]) w3) ∧ Kx O w0.heap.size Bw wr.drew w3 ∧ Way Bw (wrap64 pl) false w3)) (by
            have HPL' := HPL.out
            rintro e9 w3 ⟨r, rfl, hr1, hr0, hk3, hb3⟩
            have hw3 : Way Bw (wrap64 pl) false w3 := hb3.trans HW.out
            have hBb3 : w3.cell? ⟨Bb, 0, none⟩ = some (.pointer (some ⟨Bw, 0, none⟩)) := hk3.cell (A := wr.drew) HNO.out.1 hnB hBb'
            exact ⟨r, rfl, hw3.cells.1, hw3.cells.2.1, hw3.cells.2.2, hBb3, hr1, hr0, hk3, hw3⟩)
          clear hR hpre hfl HJ1 hJ1 hw1 hT
          have HSN := Lib.hid hsn
          clear hsn
          gi_wp2
          gi_region_with (refine hR2.mono ?_; rintro e9 w3 ⟨r, rfl, y0, y1, yf, hBb3, HR⟩)
          all_goals
            have hD : Hid (Way Bw (wrap64 pl) (!r) (w3.setCell ⟨Bw, 1, none⟩ (.bool (!r))) ∧ w3.grownBy (w3.setCell ⟨Bw, 1, none⟩ (.bool (!r))) (some Bw) ∧ (w3.setCell ⟨Bw, 1, none⟩ (.bool (!r))).cell? ⟨Bb, 0, none⟩ = some (.pointer (some ⟨Bw, 0, none⟩))) :=
              ⟨HR.out.2.2.2.set1, grown_set0 _ _ _ _, by rw [World.cell?_of_block (a := ⟨Bb, 0, none⟩) ((grown_set0 w3 Bw 1 (.bool (!r))).block Bb (World.block_lt_of_cell? _ _ hBb3) (fun e => hnB (by cases e; rfl)))]; exact hBb3⟩
            revert hD
            generalize w3.setCell ⟨Bw, 1, none⟩ (.bool (!r)) = w5
            intro hD
            obtain ⟨v0, v1, vf⟩ := hD.out.1.cells
            have hBb5 := hD.out.2.2
            have hws := wrap_succ pl
            clear y0 y1 yf hBb3 z0 z1 zf hR2
            gi_wp2
            have hE : Hid (Way Bw (wrap64 ((pl + 1 : Nat) : Int)) (!r) (w5.setCell ⟨Bw, 0, none⟩ (.int .i64 (wrap64 ((pl + 1 : Nat) : Int)))) ∧ w5.grownBy (w5.setCell ⟨Bw, 0, none⟩ (.int .i64 (wrap64 ((pl + 1 : Nat) : Int)))) (some Bw)) := ⟨hD.out.1.set0, grown_set0 _ _ _ _⟩
            refine ⟨⟨j + 1, by omega, by go_num, ?_⟩, by simp [intOf]; omega⟩
            have hk3 := ((HKX.out.trans HNO.out.2).trans HR.out.2.2.1)
            exact thr_one hBw0 hJ hJx hb0.size hk3 (fun q => HSN.out ▸ HR.out.1 q) (fun q => HSN.out ▸ HR.out.2.1 q) HT.out (by rw [HSN.out, List.length_append, ← HPL.out]; rfl) hD.out.2.1 hE.out.2 hE.out.1
      · 
        obtain ⟨z0, z1, zf⟩ := hw1.cells
        gi_wp2
        refine bodyPost_ret (results_none rfl _ _ _) rfl ?_
        exact ⟨⟨_, rfl⟩, HKX.out, .inr ⟨q, hq, hx1, p, hw1⟩⟩
    · obtain rfl : j = ll := by omega
      gi_wp2
      go_end0
      exact ⟨⟨_, rfl⟩, HKX.out, hst⟩
end Go.Proofs.YtnmindcofdcncaaGreatDoor
