/-
  Walks: isName, isPlain, isText, areAttrs of show.
  Conditions: what is looked at lies in memory; the table of the kinds' rows holds what the program's text lays in it.
  Walks: areAttrs of show.
  Conditions: the attributes lie in memory; the table of the kinds' rows holds what the program's text lays in it.
  Walks: isHost, mayBe of show: any nodes.
  Conditions: the nodes lie in memory; the table of the kinds' rows holds what the program's text lays in it.
-/
import Derived.Test.YtajmdhcknmmbbaaGreatDoorShM
import Derived.Test.YtajmdhcknmmbbaaGreatDoorSMb
import Derived.Test.YtajmdhcknmmbbaaGreatDoorNTab
import Derived.Deep.RegionHeld3
import Derived.Deep.Cut
import Derived.IntWalk
import Derived.BigQuiet
namespace Go.Proofs.YtajmdhcknmmbbaaGreatDoor.Sh
set_option linter.unusedVariables false
set_option linter.unusedSimpArgs false
open Go.Proofs.YtajmdhcknmmbbaaGreatDoor Go.RowKit Go.Deep

set_option maxRecDepth 100000 in
theorem isName_any (s : ByteArray) (w : World) : Calls Tryz.prog 143 #[.string s] w fun e w' => e = .returned (.bool (nameB s)) ∧ w' = w := by
  cases h1 : s.toList == [] with
  | true =>
    have hn : nameB s = false := by rw [nameB, h1]; rfl
    rw [hn]
    go_enter Tryz.func143, Tryz.ntmps143
    go_wp2_with fail
    go_ret
    exact ⟨rfl, rfl⟩
  | false =>
    by_cases h2 : s.size ≤ 4096
    · have hn : nameB s = true := by rw [nameB, h1, decide_eq_true h2]; rfl
      have h3 : (s.size : Int) ≤ 4096 := by omega
      rw [hn]
      go_enter Tryz.func143, Tryz.ntmps143
      go_wp2_with fail
      go_ret
      exact ⟨rfl, rfl⟩
    · have hn : nameB s = false := by rw [nameB, h1, decide_eq_false h2]; rfl
      have h3 : ¬ (s.size : Int) ≤ 4096 := by omega
      rw [hn]
      go_enter Tryz.func143, Tryz.ntmps143
      go_wp2_with fail
      go_ret
      exact ⟨rfl, rfl⟩
theorem size_val2 : (Tryz.prog.info? 66).map (·.size) = some 8 := by kernel_rfl
theorem pv_kind {k n : Int} {s : ByteArray} {la : Option Addr} {ll lc : Nat} {L : Nat → V} {fa : Option Addr} {fl fc : Nat} {fn : Nat → ByteArray} {F : Nat → V} {e : Int} {key : ByteArray} {hk : Bool} (h : ¬ k = 1 ∧ ¬ k = 2 ∧ ¬ k = 3) : (V.pv (.mk k n s la ll lc L fa fl fc fn F e key hk)).isSome = false := by
  rw [V.pv, if_neg h.1, if_neg h.2.1, if_neg h.2.2]
  split <;> rfl
theorem pv_check {k n : Int} {s : ByteArray} {la : Option Addr} {ll lc : Nat} {L : Nat → V} {fa : Option Addr} {fl fc : Nat} {fn : Nat → ByteArray} {F : Nat → V} {e : Int} {key : ByteArray} {hk : Bool} (h : k = 1 ∨ k = 2 ∨ k = 3) : (V.pv (.mk k n s la ll lc L fa fl fc fn F e key hk)).isSome = (V.mk k n s la ll lc L fa fl fc fn F e key hk).check := by
  rw [V.pv]
  split
  · rename_i hc
    rw [hc]
    rcases h with rfl | rfl | rfl <;> rfl
  · rename_i hc
    rw [Bool.eq_false_iff.2 hc]; rfl
set_option maxRecDepth 100000 in
set_option maxHeartbeats 1000000 in
theorem isPlain_any (v : V) (w : World) (h : v.In w) (hr : RowsAt w) : Calls Tryz.prog 166 #[v.agg] w fun e w' => e = .returned (.bool (V.pv v).isSome) ∧ Below w.heap.size w w' := by
  cases v with
  | leaf => exact h.elim
  | mk k n s la ll lc L fa fl fc fn F e key hk =>
  have hal := fun O => below_alloc w O
  have HC := Lib.hid (fun T => check_any (.mk k n s la ll lc L fa fl fc fn F e key hk) (w.alloc (.cells (V.mk k n s la ll lc L fa fl fc fn F e key hk).cells.toArray T)) (h.below (hal _)) (hr.below (hal _)))
  have HP := Lib.hid (fun (h : k = 1 ∨ k = 2 ∨ k = 3) => pv_check (n := n) (s := s) (la := la) (ll := ll) (lc := lc) (L := L) (fa := fa) (fl := fl) (fc := fc) (fn := fn) (F := F) (e := e) (key := key) (hk := hk) h)
  have HQ := Lib.hid (fun (h : ¬ k = 1 ∧ ¬ k = 2 ∧ ¬ k = 3) => pv_kind (n := n) (s := s) (la := la) (ll := ll) (lc := lc) (L := L) (fa := fa) (fl := fl) (fc := fc) (fn := fn) (F := F) (e := e) (key := key) (hk := hk) h)
  generalize (V.pv (.mk k n s la ll lc L fa fl fc fn F e key hk)).isSome = q at HP HQ ⊢
  generalize (V.mk k n s la ll lc L fa fl fc fn F e key hk).check = cc at HC HP
  clear h hr
  simp only [V.agg, V.cells] at HC ⊢
  by_cases h1 : k = 1
  · have e1 := HP.out (.inl h1)
    subst h1
    go_enter Tryz.func166, Tryz.ntmps166
    go_wp2_with (go_at_call 183; (with_reducible refine (HC.out _).mono ?_); rintro x w1 ⟨rfl, hb1⟩)
    go_ret
    exact ⟨by rw [e1]; rfl, (hal _).trans (hb1.mono (hal _).size)⟩
  · by_cases h2 : k = 2
    · have e1 := HP.out (.inr (.inl h2))
      subst h2
      go_enter Tryz.func166, Tryz.ntmps166
      go_wp2_with (go_at_call 183; (with_reducible refine (HC.out _).mono ?_); rintro x w1 ⟨rfl, hb1⟩)
      go_ret
      exact ⟨by rw [e1]; rfl, (hal _).trans (hb1.mono (hal _).size)⟩
    · by_cases h3 : k = 3
      · have e1 := HP.out (.inr (.inr h3))
        subst h3
        go_enter Tryz.func166, Tryz.ntmps166
        go_wp2_with (go_at_call 183; (with_reducible refine (HC.out _).mono ?_); rintro x w1 ⟨rfl, hb1⟩)
        go_ret
        exact ⟨by rw [e1]; rfl, (hal _).trans (hb1.mono (hal _).size)⟩
      · have e1 := HQ.out ⟨h1, h2, h3⟩
        have g1 : (k == 1) = false := by simpa using h1
        have g2 : (k == 2) = false := by simpa using h2
        have g3 : (k == 3) = false := by simpa using h3
        go_enter Tryz.func166, Tryz.ntmps166
        go_wp2_with fail
        go_ret
        exact ⟨by rw [e1]; rfl, hal _⟩
set_option maxRecDepth 100000 in
set_option maxHeartbeats 1000000 in
theorem isText_any (id : Int) (tag text : ByteArray) (aa : Option Addr) (al ac : Nat) (ka : Option Addr) (kl kc : Nat) (w : World) (b o : Nat) (h : At w b o [.int .i64 id, .string tag, .string text, .slice aa al ac, .slice ka kl kc]) :
    Calls Tryz.prog 91 #[.pointer (some ⟨b, o, none⟩)] w fun e w' => e = .returned (.bool (textB tag text al kl)) ∧ w' = w := by
  have c1 : w.cell? ⟨b, o + 1, none⟩ = some (.string tag) := h 1 (by simp)
  have c2 : w.cell? ⟨b, o + 2, none⟩ = some (.string text) := h 2 (by simp)
  have c3 : w.cell? ⟨b, o + 3, none⟩ = some (.slice aa al ac) := h 3 (by simp)
  have c4 : w.cell? ⟨b, o + 4, none⟩ = some (.slice ka kl kc) := h 4 (by simp)
  clear h
  obtain ⟨q, hq⟩ : ∃ q, textB tag text al kl = q := ⟨_, rfl⟩
  rw [hq]
  unfold textB at hq
  cases h1 : tag.toList == [] with
  | false =>
    rw [h1] at hq
    have hq : false = q := hq
    subst hq
    go_enter Tryz.func91, Tryz.ntmps91
    go_wp2_with fail
    go_ret
    exact ⟨rfl, rfl⟩
  | true =>
    rw [h1] at hq
    by_cases h2 : text.size ≤ 4096
    · have g2 : (text.size : Int) ≤ 4096 := by omega
      by_cases h3 : al = 0
      · have g3 : (al : Int) = 0 := by omega
        by_cases h4 : kl = 0
        · have g4 : (kl : Int) = 0 := by omega
          rw [decide_eq_true h2, decide_eq_true h3, decide_eq_true h4] at hq
          have hq : true = q := hq
          subst hq
          clear h2 h3 h4
          go_enter Tryz.func91, Tryz.ntmps91
          go_wp2_with fail
          go_ret
          exact ⟨rfl, rfl⟩
        · have g4 : ¬ (kl : Int) = 0 := by omega
          have g5 : ((kl : Int) == 0) = false := by simpa using h4
          rw [decide_eq_true h2, decide_eq_true h3, decide_eq_false h4] at hq
          have hq : false = q := hq
          subst hq
          clear h2 h3 h4
          go_enter Tryz.func91, Tryz.ntmps91
          go_wp2_with fail
          go_ret
          exact ⟨rfl, rfl⟩
      · have g3 : ¬ (al : Int) = 0 := by omega
        rw [decide_eq_true h2, decide_eq_false h3] at hq
        have hq : false = q := hq
        subst hq
        clear h2 h3
        go_enter Tryz.func91, Tryz.ntmps91
        go_wp2_with fail
        go_ret
        exact ⟨rfl, rfl⟩
    · have g2 : ¬ (text.size : Int) ≤ 4096 := by omega
      rw [decide_eq_false h2] at hq
      have hq : false = q := hq
      subst hq
      clear h2
      go_enter Tryz.func91, Tryz.ntmps91
      go_wp2_with fail
      go_ret
      exact ⟨rfl, rfl⟩
end Go.Proofs.YtajmdhcknmmbbaaGreatDoor.Sh
namespace Go.Proofs.YtajmdhcknmmbbaaGreatDoor.Sh
set_option linter.unusedVariables false
set_option linter.unusedSimpArgs false
open Go.Proofs.YtajmdhcknmmbbaaGreatDoor Go.RowKit Go.Deep

theorem aOk_name {an : Nat → ByteArray} {A : Nat → V} {i : Nat} (h : nameB (an i) = false) : aOk an A i = false := by rw [aOk, h]; rfl
theorem aOk_up {an : Nat → ByteArray} {A : Nat → V} {i : Nat} (h : notUp an i = true) : aOk an A i = false := by rw [aOk, h]; simp
theorem aOk_pv {an : Nat → ByteArray} {A : Nat → V} {i : Nat} (h : (V.pv (A i)).isSome = false) : aOk an A i = false := by rw [aOk, h]; simp
theorem aOk_good {an : Nat → ByteArray} {A : Nat → V} {i : Nat} (h1 : nameB (an i) = true) (h2 : notUp an i = false) (h3 : (V.pv (A i)).isSome = true) : aOk an A i = true := by rw [aOk, h1, h2, h3]; rfl

set_option maxRecDepth 100000 in
set_option maxHeartbeats 4000000 in
theorem areAttrs_any (aa : Option Addr) (al ac : Nat) (an : Nat → ByteArray) (A : Nat → V) (w : World) (h : FsIn w aa al an A) (hlc : al ≤ ac ∧ ac ≤ maxLen) (hr : RowsAt w) :
    Calls Tryz.prog 144 #[.slice aa al ac] w fun e w' => e = .returned (.bool (allB al (aOk an A))) ∧ Below w.heap.size w w' := by
  unfold maxLen at hlc
  have H := Lib.hid h
  have HPL := Lib.hid (fun i (hi : i < al) (W : World) (hb : Below w.heap.size w W) => isPlain_any (A i) W ((h i hi).2.2.below hb) (hr.below hb))
  clear h hr
  go_enter Tryz.func144, Tryz.ntmps144
  go_wp2_with fail
  go_loopw [7] (fun i wr => ∃ k : Nat, k ≤ al ∧ i = .int .i64 k ∧ HeldTo k (aOk an A) ∧ Below w.heap.size w wr) (fun i _ => al - (intOf i).toNat)
  case atStart => exact ⟨0, Nat.zero_le _, rfl, HeldTo.zero, Below.refl _ _⟩
  case round =>
    obtain ⟨k, hk, rfl, hheld, hb⟩ := hrel
    have HH := Lib.hid hheld
    clear hheld
    by_cases hlt : k < al
    · obtain ⟨⟨b, o, rfl, hat⟩, hsz, hin⟩ := H.out k hlt
      have HB := Lib.hid hb
      have hPL := HPL.out k hlt
      have hlt' : b < w.heap.size := World.block_lt_of_cell? _ _ ((hat 0 (by simp)).trans (by simp : _ = some (Value.string (an k))))
      have HX : Hid (∀ W, Below w.heap.size w W → At W b (o + k * 9) (.string (an k) :: (A k).cells)) := Lib.hid fun W hb => hat.mono fun _ ha => hb.cell ha
      have HF := Lib.hid (show aOk an A k = false → Ending.returned (.bool false) = .returned (.bool (allB al (aOk an A))) from fun h1 => by rw [allB_false hlt h1])
      have HG := Lib.hid (show aOk an A k = true → HeldTo (k + 1) (aOk an A) from fun h1 => HH.out.succ h1)
      have HA1 := Lib.hid (fun h => aOk_name (A := A) (an := an) (i := k) h)
      have HA2 := Lib.hid (fun h => aOk_up (A := A) (an := an) (i := k) h)
      have HA3 := Lib.hid (fun h => aOk_pv (A := A) (an := an) (i := k) h)
      have HA4 := Lib.hid (fun h1 h2 h3 => aOk_good (A := A) (an := an) (i := k) h1 h2 h3)
      have HUP : Hid (∀ j, k = j + 1 → notUp an k = bLe (an k) (an j) ∧ ∀ W, Below w.heap.size w W → W.cell? ⟨b, o + j * 9, none⟩ = some (.string (an j))) := Lib.hid fun j hj => by
        subst hj
        refine ⟨rfl, fun W hb => ?_⟩
        obtain ⟨⟨b', o', he, hat'⟩, -, -⟩ := H.out j (by omega)
        simp only [Option.some.injEq, Addr.mk.injEq, and_true] at he
        obtain ⟨rfl, rfl⟩ := he
        exact (hat'.mono fun _ ha => hb.cell ha) 0 (by simp)
      have HU0 : Hid (k = 0 → notUp an k = false) := Lib.hid fun h => by rw [h]; rfl
      clear hat hsz
      generalize an k = x at HX HA1 HA4 HUP
      generalize A k = v at HX hPL HA3 HA4 hin
      cases v with
      | leaf => exact hin.elim
      | mk vk vn vs vla vll vlc vL vfa vfl vfc vfn vF ve vkey vhk =>
      clear hin
      generalize (V.pv (V.mk vk vn vs vla vll vlc vL vfa vfl vfc vfn vF ve vkey vhk)).isSome = q at hPL HA3 HA4
      simp only [V.agg, V.cells] at HX hPL
      have HPL2 := Lib.hid hPL
      clear hPL
      generalize aOk an A k = qa at HF HG HA1 HA2 HA3 HA4
      generalize notUp an k = qu at HA2 HA4 HUP HU0
      have X := HX.out wr hb
      have c0 : wr.cell? ⟨b, o + k * 9, none⟩ = some (.string x) := X 0 (by simp)
      have c1 : wr.cell? ⟨b, o + k * 9 + 1, none⟩ = some (.int .u8 vk) := X 1 (by simp)
      have c2 : wr.cell? ⟨b, o + k * 9 + 2, none⟩ = some (.int .i64 vn) := X 2 (by simp)
      have c3 : wr.cell? ⟨b, o + k * 9 + 3, none⟩ = some (.string vs) := X 3 (by simp)
      have c4 : wr.cell? ⟨b, o + k * 9 + 4, none⟩ = some (.slice vla vll vlc) := X 4 (by simp)
      have c5 : wr.cell? ⟨b, o + k * 9 + 5, none⟩ = some (.slice vfa vfl vfc) := X 5 (by simp)
      have c6 : wr.cell? ⟨b, o + k * 9 + 6, none⟩ = some (.int .u8 ve) := X 6 (by simp)
      have c7 : wr.cell? ⟨b, o + k * 9 + 7, none⟩ = some (.string vkey) := X 7 (by simp)
      have c8 : wr.cell? ⟨b, o + k * 9 + 8, none⟩ = some (.bool vhk) := X 8 (by simp)
      clear X
      have hR := fun (W : World) (hW : Below w.heap.size w W) => HX.out W hW
      have HC : Hid (∀ W, Below w.heap.size w W → W.cell? ⟨b, o + k * 9, none⟩ = some (.string x) ∧ W.cell? ⟨b, o + k * 9 + 1, none⟩ = some (.int .u8 vk) ∧ W.cell? ⟨b, o + k * 9 + 2, none⟩ = some (.int .i64 vn) ∧ W.cell? ⟨b, o + k * 9 + 3, none⟩ = some (.string vs) ∧ W.cell? ⟨b, o + k * 9 + 4, none⟩ = some (.slice vla vll vlc) ∧ W.cell? ⟨b, o + k * 9 + 5, none⟩ = some (.slice vfa vfl vfc) ∧ W.cell? ⟨b, o + k * 9 + 6, none⟩ = some (.int .u8 ve) ∧ W.cell? ⟨b, o + k * 9 + 7, none⟩ = some (.string vkey) ∧ W.cell? ⟨b, o + k * 9 + 8, none⟩ = some (.bool vhk)) := Lib.hid fun W hW => ⟨hR W hW 0 (by simp), hR W hW 1 (by simp), hR W hW 2 (by simp), hR W hW 3 (by simp), hR W hW 4 (by simp), hR W hW 5 (by simp), hR W hW 6 (by simp), hR W hW 7 (by simp), hR W hW 8 (by simp)⟩
      have hbd : Below w.heap.size w wr.drew := hb.trans ((below_drewN wr 1).mono hb.size)
      clear hR
      have HNM := Lib.hid (isName_any x)
      cases hnm : nameB x with
      | false =>
        have R := Lib.hid (HF.out (HA1.out hnm))
        rw [hnm] at HNM
        clear HA1 HA4
        go_upto_region 5 with fail
        go_quiet ((go_at_call 143; exact Calls.quiet_of_same (HNM.out _)))
        go_wp2_with fail
        go_ret
        exact ⟨R.out, hb.trans ((below_drewN wr _).mono hb.size)⟩
      | true =>
        rw [hnm] at HNM
        rcases Nat.eq_zero_or_pos k with h0 | hpos
        · have hu := HU0.out h0
          subst h0
          simp only [Nat.zero_mul, Nat.add_zero] at HC c0 c1 c2 c3 c4 c5 c6 c7 c8
          cases hq : q with
          | false =>
            have R := Lib.hid (HF.out (HA3.out hq))
            rw [hq] at HPL2
            clear HA3 HA4 HA1 HA2 HG HF c0 c1 c2 c3 c4 c5 c6 c7 c8
            go_upto_region 5 with fail
            refine wp_region_held_drew (S := fun W => Below w.heap.size w W ∧ (W.cell? ⟨b, o, none⟩ = some (.string x) ∧ W.cell? ⟨b, o + 1, none⟩ = some (.int .u8 vk) ∧ W.cell? ⟨b, o + 2, none⟩ = some (.int .i64 vn) ∧ W.cell? ⟨b, o + 3, none⟩ = some (.string vs) ∧ W.cell? ⟨b, o + 4, none⟩ = some (.slice vla vll vlc) ∧ W.cell? ⟨b, o + 5, none⟩ = some (.slice vfa vfl vfc) ∧ W.cell? ⟨b, o + 6, none⟩ = some (.int .u8 ve) ∧ W.cell? ⟨b, o + 7, none⟩ = some (.string vkey) ∧ W.cell? ⟨b, o + 8, none⟩ = some (.bool vhk))) (by kernel_rfl) ⟨hbd, HC.out _ hbd⟩ (fun hH => ?_)
            refine wpAnyH_take (i := 0) (oi := { dst := some 13, op := Go.Op.move (Go.Operand.tmp 4), type := 227, pos := "may.go:34", after := #[], guard := none }) (v := ?_) rfl (by kernel_rfl) (by kernel_rfl) (by kernel_rfl) (fun _ _ _ h => h) (Or.inl ⟨by rfl, ?_⟩) hH ?_; rotate_left; (focus (intro wS hSw; (try dsimp only at hSw); go_simp; (try with_reducible rfl))); simp only [Act.put, List.setIfInBounds_toArray, List.set_cons_zero, List.set_cons_succ]
            refine wpAnyH_take (i := 1) (oi := { dst := some 14, op := Go.Op.nilCheck (Go.Operand.tmp 13), type := 0, pos := "may.go:34", after := #[{ on := 0, ground := Go.Ground.data }], guard := none }) (v := ?_) rfl (by kernel_rfl) (by kernel_rfl) (by kernel_rfl) (fun _ _ _ h => h) (Or.inl ⟨by rfl, ?_⟩) hH ?_; rotate_left; (focus (intro wS hSw; (try dsimp only at hSw); go_simp; (try with_reducible rfl))); simp only [Act.put, List.setIfInBounds_toArray, List.set_cons_zero, List.set_cons_succ]
            refine wpAnyH_take (i := 2) (oi := { dst := some 15, op := Go.Op.fieldAddr 68 (Go.Operand.tmp 14) 0, type := 0, pos := "may.go:34", after := #[{ on := 1, ground := Go.Ground.data }], guard := none }) (v := ?_) rfl (by kernel_rfl) (by kernel_rfl) (by kernel_rfl) (fun _ _ _ h => h) (Or.inl ⟨by rfl, ?_⟩) hH ?_; rotate_left; (focus (intro wS hSw; (try dsimp only at hSw); go_simp; (try with_reducible rfl))); simp only [Act.put, List.setIfInBounds_toArray, List.set_cons_zero, List.set_cons_succ]
            refine wpAnyH_take (i := 3) (oi := { dst := some 16, op := Go.Op.load 9 (Go.Operand.tmp 15), type := 9, pos := "may.go:34", after := #[{ on := 2, ground := Go.Ground.data }], guard := none }) (v := ?_) rfl (by kernel_rfl) (by kernel_rfl) (by kernel_rfl) (fun _ _ _ h => h) (Or.inl ⟨by rfl, ?_⟩) hH ?_; rotate_left; (focus (intro wS hSw; (try dsimp only at hSw); go_simp; (try with_reducible rfl))); simp only [Act.put, List.setIfInBounds_toArray, List.set_cons_zero, List.set_cons_succ]
            refine wpAnyH_ready (rs := [4]) (by kernel_rfl) (by simp) ?_
            refine AllReadyH.cons (o := { dst := some 17, op := Go.Op.call { callee := Go.Callee.value (Go.Operand.func 143), args := #[Go.Operand.tmp 16], argTypes := #[9] }, type := 4, pos := "may.go:34", after := #[{ on := 3, ground := Go.Ground.data }], guard := none }) rfl (fun K hK => ?_) AllReadyH.nil
            go_simp
            go_at_call 143
            with_reducible refine (HNM.out _).mono ?_
            rintro e1 w1 ⟨rfl, rfl⟩
            (try go_wp2_with fail)
            refine hK.out _ _ hH (fun hH2 => ?_)
            clear hK K hH
            have hH := hH2
            (try simp only [Act.put, List.setIfInBounds_toArray, List.set_cons_zero, List.set_cons_succ])
            refine wpAnyH_take (i := 5) (oi := { dst := some 18, op := Go.Op.unOp Go.UnOp.not 4 (Go.Operand.tmp 17), type := 4, pos := "may.go:34", after := #[{ on := 4, ground := Go.Ground.data }], guard := none }) (v := ?_) rfl (by kernel_rfl) (by kernel_rfl) (by kernel_rfl) (fun _ _ _ h => h) (Or.inl ⟨by rfl, ?_⟩) hH ?_; rotate_left; (focus (intro wS hSw; (try dsimp only at hSw); go_simp; (try with_reducible rfl))); simp only [Act.put, List.setIfInBounds_toArray, List.set_cons_zero, List.set_cons_succ]
            refine wpAnyH_take (i := 6) (oi := { dst := some 19, op := Go.Op.move (Go.Operand.tmp 18), type := 4, pos := "may.go:34", after := #[{ on := 5, ground := Go.Ground.data }, { on := 4, ground := Go.Ground.chain }], guard := none }) (v := ?_) rfl (by kernel_rfl) (by kernel_rfl) (by kernel_rfl) (fun _ _ _ h => h) (Or.inl ⟨by rfl, ?_⟩) hH ?_; rotate_left; (focus (intro wS hSw; (try dsimp only at hSw); go_simp; (try with_reducible rfl))); simp only [Act.put, List.setIfInBounds_toArray, List.set_cons_zero, List.set_cons_succ]
            refine wpAnyH_take (i := 7) (oi := { dst := some 20, op := Go.Op.move (Go.Operand.tmp 3), type := 3, pos := "may.go:34", after := #[{ on := 6, ground := Go.Ground.guard }], guard := some (6, false) }) (v := ?_) rfl (by kernel_rfl) (by kernel_rfl) (by kernel_rfl) (fun _ _ _ h => h) (Or.inl ⟨by rfl, ?_⟩) hH ?_; rotate_left; (focus (intro wS hSw; (try dsimp only at hSw); go_simp; (try with_reducible rfl))); simp only [Act.put, List.setIfInBounds_toArray, List.set_cons_zero, List.set_cons_succ]
            refine wpAnyH_take (i := 8) (oi := { dst := some 21, op := Go.Op.binOp Go.BinOp.gtr 3 (Go.Operand.tmp 20) (Go.Operand.const (Go.Value.int Go.IntKind.i64 0)) 3, type := 4, pos := "may.go:34", after := #[{ on := 7, ground := Go.Ground.data }, { on := 6, ground := Go.Ground.guard }], guard := some (6, false) }) (v := .bool false) rfl (by kernel_rfl) (by kernel_rfl) (by kernel_rfl) (fun _ _ _ h => h) (Or.inl ⟨by rfl, ?_⟩) hH ?_; (focus (intro wS hSw; (try dsimp only at hSw); go_simp; (try with_reducible rfl))); simp only [Act.put, List.setIfInBounds_toArray, List.set_cons_zero, List.set_cons_succ]
            refine wpAnyH_take (i := 9) (oi := { dst := some 22, op := Go.Op.move (Go.Operand.tmp 21), type := 4, pos := "may.go:34", after := #[{ on := 8, ground := Go.Ground.data }, { on := 6, ground := Go.Ground.chain }, { on := 6, ground := Go.Ground.guard }], guard := some (6, false) }) (v := ?_) rfl (by kernel_rfl) (by kernel_rfl) (by kernel_rfl) (fun _ _ _ h => h) (Or.inl ⟨by rfl, ?_⟩) hH ?_; rotate_left; (focus (intro wS hSw; (try dsimp only at hSw); go_simp; (try with_reducible rfl))); simp only [Act.put, List.setIfInBounds_toArray, List.set_cons_zero, List.set_cons_succ]
            refine wpAnyH_take (i := 10) (oi := { dst := some 23, op := Go.Op.move (Go.Operand.tmp 4), type := 227, pos := "may.go:34", after := #[{ on := 9, ground := Go.Ground.guard }], guard := some (9, true) }) (v := undef) rfl (by kernel_rfl) (by kernel_rfl) (by kernel_rfl) (fun _ _ _ h => h) (Or.inr ⟨by rfl, rfl⟩) hH ?_; simp only [Act.put, List.setIfInBounds_toArray, List.set_cons_zero, List.set_cons_succ]
            refine wpAnyH_take (i := 11) (oi := { dst := some 24, op := Go.Op.nilCheck (Go.Operand.tmp 23), type := 0, pos := "may.go:34", after := #[{ on := 10, ground := Go.Ground.data }, { on := 9, ground := Go.Ground.guard }], guard := some (9, true) }) (v := undef) rfl (by kernel_rfl) (by kernel_rfl) (by kernel_rfl) (fun _ _ _ h => h) (Or.inr ⟨by rfl, rfl⟩) hH ?_; simp only [Act.put, List.setIfInBounds_toArray, List.set_cons_zero, List.set_cons_succ]
            refine wpAnyH_take (i := 12) (oi := { dst := some 25, op := Go.Op.fieldAddr 68 (Go.Operand.tmp 24) 0, type := 0, pos := "may.go:34", after := #[{ on := 11, ground := Go.Ground.data }, { on := 9, ground := Go.Ground.guard }], guard := some (9, true) }) (v := undef) rfl (by kernel_rfl) (by kernel_rfl) (by kernel_rfl) (fun _ _ _ h => h) (Or.inr ⟨by rfl, rfl⟩) hH ?_; simp only [Act.put, List.setIfInBounds_toArray, List.set_cons_zero, List.set_cons_succ]
            refine wpAnyH_take (i := 13) (oi := { dst := some 26, op := Go.Op.load 9 (Go.Operand.tmp 25), type := 9, pos := "may.go:34", after := #[{ on := 12, ground := Go.Ground.data }, { on := 9, ground := Go.Ground.guard }], guard := some (9, true) }) (v := undef) rfl (by kernel_rfl) (by kernel_rfl) (by kernel_rfl) (fun _ _ _ h => h) (Or.inr ⟨by rfl, rfl⟩) hH ?_; simp only [Act.put, List.setIfInBounds_toArray, List.set_cons_zero, List.set_cons_succ]
            refine wpAnyH_take (i := 14) (oi := { dst := some 27, op := Go.Op.move (Go.Operand.tmp 0), type := 56, pos := "may.go:34", after := #[{ on := 9, ground := Go.Ground.guard }], guard := some (9, true) }) (v := undef) rfl (by kernel_rfl) (by kernel_rfl) (by kernel_rfl) (fun _ _ _ h => h) (Or.inr ⟨by rfl, rfl⟩) hH ?_; simp only [Act.put, List.setIfInBounds_toArray, List.set_cons_zero, List.set_cons_succ]
            refine wpAnyH_take (i := 15) (oi := { dst := some 28, op := Go.Op.move (Go.Operand.tmp 3), type := 3, pos := "may.go:34", after := #[{ on := 9, ground := Go.Ground.guard }], guard := some (9, true) }) (v := undef) rfl (by kernel_rfl) (by kernel_rfl) (by kernel_rfl) (fun _ _ _ h => h) (Or.inr ⟨by rfl, rfl⟩) hH ?_; simp only [Act.put, List.setIfInBounds_toArray, List.set_cons_zero, List.set_cons_succ]
            refine wpAnyH_take (i := 16) (oi := { dst := some 29, op := Go.Op.binOp Go.BinOp.sub 3 (Go.Operand.tmp 28) (Go.Operand.const (Go.Value.int Go.IntKind.i64 1)) 3, type := 3, pos := "may.go:34", after := #[{ on := 15, ground := Go.Ground.data }, { on := 9, ground := Go.Ground.guard }], guard := some (9, true) }) (v := undef) rfl (by kernel_rfl) (by kernel_rfl) (by kernel_rfl) (fun _ _ _ h => h) (Or.inr ⟨by rfl, rfl⟩) hH ?_; simp only [Act.put, List.setIfInBounds_toArray, List.set_cons_zero, List.set_cons_succ]
            refine wpAnyH_take (i := 17) (oi := { dst := some 30, op := Go.Op.indexAddr 56 (Go.Operand.tmp 27) (Go.Operand.tmp 29), type := 0, pos := "may.go:34", after := #[{ on := 14, ground := Go.Ground.data }, { on := 16, ground := Go.Ground.data }, { on := 9, ground := Go.Ground.guard }], guard := some (9, true) }) (v := undef) rfl (by kernel_rfl) (by kernel_rfl) (by kernel_rfl) (fun _ _ _ h => h) (Or.inr ⟨by rfl, rfl⟩) hH ?_; simp only [Act.put, List.setIfInBounds_toArray, List.set_cons_zero, List.set_cons_succ]
            refine wpAnyH_take (i := 18) (oi := { dst := some 31, op := Go.Op.fieldAddr 68 (Go.Operand.tmp 30) 0, type := 0, pos := "may.go:34", after := #[{ on := 17, ground := Go.Ground.data }, { on := 9, ground := Go.Ground.guard }], guard := some (9, true) }) (v := undef) rfl (by kernel_rfl) (by kernel_rfl) (by kernel_rfl) (fun _ _ _ h => h) (Or.inr ⟨by rfl, rfl⟩) hH ?_; simp only [Act.put, List.setIfInBounds_toArray, List.set_cons_zero, List.set_cons_succ]
            refine wpAnyH_take (i := 19) (oi := { dst := some 32, op := Go.Op.load 9 (Go.Operand.tmp 31), type := 9, pos := "may.go:34", after := #[{ on := 18, ground := Go.Ground.data }, { on := 9, ground := Go.Ground.guard }], guard := some (9, true) }) (v := undef) rfl (by kernel_rfl) (by kernel_rfl) (by kernel_rfl) (fun _ _ _ h => h) (Or.inr ⟨by rfl, rfl⟩) hH ?_; simp only [Act.put, List.setIfInBounds_toArray, List.set_cons_zero, List.set_cons_succ]
            refine wpAnyH_take (i := 20) (oi := { dst := some 33, op := Go.Op.binOp Go.BinOp.leq 9 (Go.Operand.tmp 26) (Go.Operand.tmp 32) 9, type := 4, pos := "may.go:34", after := #[{ on := 13, ground := Go.Ground.data }, { on := 19, ground := Go.Ground.data }, { on := 9, ground := Go.Ground.guard }], guard := some (9, true) }) (v := undef) rfl (by kernel_rfl) (by kernel_rfl) (by kernel_rfl) (fun _ _ _ h => h) (Or.inr ⟨by rfl, rfl⟩) hH ?_; simp only [Act.put, List.setIfInBounds_toArray, List.set_cons_zero, List.set_cons_succ]
            refine wpAnyH_take (i := 21) (oi := { dst := some 34, op := Go.Op.pick (Go.Operand.tmp 22) (Go.Operand.tmp 33) (Go.Operand.const (Go.Value.bool false)), type := 4, pos := "may.go:34", after := #[{ on := 9, ground := Go.Ground.data }, { on := 20, ground := Go.Ground.data }, { on := 6, ground := Go.Ground.guard }], guard := some (6, false) }) (v := ?_) rfl (by kernel_rfl) (by kernel_rfl) (by kernel_rfl) (fun _ _ _ h => h) (Or.inl ⟨by rfl, ?_⟩) hH ?_; rotate_left; (focus (intro wS hSw; (try dsimp only at hSw); go_simp; (try with_reducible rfl))); simp only [Act.put, List.setIfInBounds_toArray, List.set_cons_zero, List.set_cons_succ]
            refine wpAnyH_take (i := 22) (oi := { dst := some 35, op := Go.Op.pick (Go.Operand.tmp 19) (Go.Operand.const (Go.Value.bool true)) (Go.Operand.tmp 34), type := 4, pos := "may.go:34", after := #[{ on := 6, ground := Go.Ground.data }, { on := 21, ground := Go.Ground.data }], guard := none }) (v := ?_) rfl (by kernel_rfl) (by kernel_rfl) (by kernel_rfl) (fun _ _ _ h => h) (Or.inl ⟨by rfl, ?_⟩) hH ?_; rotate_left; (focus (intro wS hSw; (try dsimp only at hSw); go_simp; (try with_reducible rfl))); simp only [Act.put, List.setIfInBounds_toArray, List.set_cons_zero, List.set_cons_succ]
            refine wpAnyH_take (i := 23) (oi := { dst := some 36, op := Go.Op.move (Go.Operand.tmp 35), type := 4, pos := "may.go:34", after := #[{ on := 22, ground := Go.Ground.data }, { on := 9, ground := Go.Ground.chain }], guard := none }) (v := ?_) rfl (by kernel_rfl) (by kernel_rfl) (by kernel_rfl) (fun _ _ _ h => h) (Or.inl ⟨by rfl, ?_⟩) hH ?_; rotate_left; (focus (intro wS hSw; (try dsimp only at hSw); go_simp; (try with_reducible rfl))); simp only [Act.put, List.setIfInBounds_toArray, List.set_cons_zero, List.set_cons_succ]
            refine wpAnyH_take (i := 24) (oi := { dst := some 37, op := Go.Op.move (Go.Operand.tmp 4), type := 227, pos := "may.go:34", after := #[{ on := 23, ground := Go.Ground.guard }], guard := some (23, false) }) (v := ?_) rfl (by kernel_rfl) (by kernel_rfl) (by kernel_rfl) (fun _ _ _ h => h) (Or.inl ⟨by rfl, ?_⟩) hH ?_; rotate_left; (focus (intro wS hSw; (try dsimp only at hSw); go_simp; (try with_reducible rfl))); simp only [Act.put, List.setIfInBounds_toArray, List.set_cons_zero, List.set_cons_succ]
            refine wpAnyH_take (i := 25) (oi := { dst := some 38, op := Go.Op.nilCheck (Go.Operand.tmp 37), type := 0, pos := "may.go:34", after := #[{ on := 24, ground := Go.Ground.data }, { on := 23, ground := Go.Ground.guard }], guard := some (23, false) }) (v := ?_) rfl (by kernel_rfl) (by kernel_rfl) (by kernel_rfl) (fun _ _ _ h => h) (Or.inl ⟨by rfl, ?_⟩) hH ?_; rotate_left; (focus (intro wS hSw; (try dsimp only at hSw); go_simp; (try with_reducible rfl))); simp only [Act.put, List.setIfInBounds_toArray, List.set_cons_zero, List.set_cons_succ]
            refine wpAnyH_take (i := 26) (oi := { dst := some 39, op := Go.Op.fieldAddr 68 (Go.Operand.tmp 38) 1, type := 0, pos := "may.go:34", after := #[{ on := 25, ground := Go.Ground.data }, { on := 23, ground := Go.Ground.guard }], guard := some (23, false) }) (v := ?_) rfl (by kernel_rfl) (by kernel_rfl) (by kernel_rfl) (fun _ _ _ h => h) (Or.inl ⟨by rfl, ?_⟩) hH ?_; rotate_left; (focus (intro wS hSw; (try dsimp only at hSw); go_simp; (try with_reducible rfl))); simp only [Act.put, List.setIfInBounds_toArray, List.set_cons_zero, List.set_cons_succ]
            refine wpAnyH_take (i := 27) (oi := { dst := some 40, op := Go.Op.load 66 (Go.Operand.tmp 39), type := 66, pos := "may.go:34", after := #[{ on := 26, ground := Go.Ground.data }, { on := 23, ground := Go.Ground.guard }], guard := some (23, false) }) (v := ?_) rfl (by kernel_rfl) (by kernel_rfl) (by kernel_rfl) (fun _ _ _ h => h) (Or.inl ⟨by rfl, ?_⟩) hH ?_; rotate_left; (focus (intro wS hSw; (try dsimp only at hSw); go_simp; (try with_reducible rfl))); simp only [Act.put, List.setIfInBounds_toArray, List.set_cons_zero, List.set_cons_succ]
            refine wpAnyH_ready (rs := [28]) (by kernel_rfl) (by simp) ?_
            refine AllReadyH.cons (o := { dst := some 41, op := Go.Op.call { callee := Go.Callee.value (Go.Operand.func 166), args := #[Go.Operand.tmp 40], argTypes := #[66] }, type := 4, pos := "may.go:34", after := #[{ on := 27, ground := Go.Ground.data }, { on := 23, ground := Go.Ground.chain }, { on := 23, ground := Go.Ground.guard }], guard := some (23, false) }) rfl (fun K hK => ?_) AllReadyH.nil
            go_simp
            go_at_call 166
            with_reducible refine (HPL2.out _ hH.1).mono ?_
            rintro e2 w2 ⟨rfl, hb2⟩
            have hb3 := hH.1.trans (hb2.mono hH.1.size)
            (try go_wp2_with fail)
            refine hK.out _ _ ⟨hb3, HC.out _ hb3⟩ (fun hH2 => ?_)
            clear hK K hH
            have hH := hH2
            (try simp only [Act.put, List.setIfInBounds_toArray, List.set_cons_zero, List.set_cons_succ])
            refine wpAnyH_take (i := 29) (oi := { dst := some 42, op := Go.Op.unOp Go.UnOp.not 4 (Go.Operand.tmp 41), type := 4, pos := "may.go:34", after := #[{ on := 28, ground := Go.Ground.data }, { on := 23, ground := Go.Ground.guard }], guard := some (23, false) }) (v := ?_) rfl (by kernel_rfl) (by kernel_rfl) (by kernel_rfl) (fun _ _ _ h => h) (Or.inl ⟨by rfl, ?_⟩) hH ?_; rotate_left; (focus (intro wS hSw; (try dsimp only at hSw); go_simp; (try with_reducible rfl))); simp only [Act.put, List.setIfInBounds_toArray, List.set_cons_zero, List.set_cons_succ]
            refine wpAnyH_take (i := 30) (oi := { dst := some 43, op := Go.Op.pick (Go.Operand.tmp 36) (Go.Operand.const (Go.Value.bool true)) (Go.Operand.tmp 42), type := 4, pos := "may.go:34", after := #[{ on := 23, ground := Go.Ground.data }, { on := 29, ground := Go.Ground.data }], guard := none }) (v := ?_) rfl (by kernel_rfl) (by kernel_rfl) (by kernel_rfl) (fun _ _ _ h => h) (Or.inl ⟨by rfl, ?_⟩) hH ?_; rotate_left; (focus (intro wS hSw; (try dsimp only at hSw); go_simp; (try with_reducible rfl))); simp only [Act.put, List.setIfInBounds_toArray, List.set_cons_zero, List.set_cons_succ]
            refine wpAnyH_done (by kernel_rfl) ?_ _
            go_wp2_with fail
            go_ret
            exact ⟨R.out, hb3⟩
          | true =>
            have R := Lib.hid (HG.out (HA4.out hnm hu hq))
            rw [hq] at HPL2
            clear HA3 HA4 HA1 HA2 HG HF c0 c1 c2 c3 c4 c5 c6 c7 c8
            go_upto_region 5 with fail
            refine wp_region_held_drew (S := fun W => Below w.heap.size w W ∧ (W.cell? ⟨b, o, none⟩ = some (.string x) ∧ W.cell? ⟨b, o + 1, none⟩ = some (.int .u8 vk) ∧ W.cell? ⟨b, o + 2, none⟩ = some (.int .i64 vn) ∧ W.cell? ⟨b, o + 3, none⟩ = some (.string vs) ∧ W.cell? ⟨b, o + 4, none⟩ = some (.slice vla vll vlc) ∧ W.cell? ⟨b, o + 5, none⟩ = some (.slice vfa vfl vfc) ∧ W.cell? ⟨b, o + 6, none⟩ = some (.int .u8 ve) ∧ W.cell? ⟨b, o + 7, none⟩ = some (.string vkey) ∧ W.cell? ⟨b, o + 8, none⟩ = some (.bool vhk))) (by kernel_rfl) ⟨hbd, HC.out _ hbd⟩ (fun hH => ?_)
            refine wpAnyH_take (i := 0) (oi := { dst := some 13, op := Go.Op.move (Go.Operand.tmp 4), type := 227, pos := "may.go:34", after := #[], guard := none }) (v := ?_) rfl (by kernel_rfl) (by kernel_rfl) (by kernel_rfl) (fun _ _ _ h => h) (Or.inl ⟨by rfl, ?_⟩) hH ?_; rotate_left; (focus (intro wS hSw; (try dsimp only at hSw); go_simp; (try with_reducible rfl))); simp only [Act.put, List.setIfInBounds_toArray, List.set_cons_zero, List.set_cons_succ]
            refine wpAnyH_take (i := 1) (oi := { dst := some 14, op := Go.Op.nilCheck (Go.Operand.tmp 13), type := 0, pos := "may.go:34", after := #[{ on := 0, ground := Go.Ground.data }], guard := none }) (v := ?_) rfl (by kernel_rfl) (by kernel_rfl) (by kernel_rfl) (fun _ _ _ h => h) (Or.inl ⟨by rfl, ?_⟩) hH ?_; rotate_left; (focus (intro wS hSw; (try dsimp only at hSw); go_simp; (try with_reducible rfl))); simp only [Act.put, List.setIfInBounds_toArray, List.set_cons_zero, List.set_cons_succ]
            refine wpAnyH_take (i := 2) (oi := { dst := some 15, op := Go.Op.fieldAddr 68 (Go.Operand.tmp 14) 0, type := 0, pos := "may.go:34", after := #[{ on := 1, ground := Go.Ground.data }], guard := none }) (v := ?_) rfl (by kernel_rfl) (by kernel_rfl) (by kernel_rfl) (fun _ _ _ h => h) (Or.inl ⟨by rfl, ?_⟩) hH ?_; rotate_left; (focus (intro wS hSw; (try dsimp only at hSw); go_simp; (try with_reducible rfl))); simp only [Act.put, List.setIfInBounds_toArray, List.set_cons_zero, List.set_cons_succ]
            refine wpAnyH_take (i := 3) (oi := { dst := some 16, op := Go.Op.load 9 (Go.Operand.tmp 15), type := 9, pos := "may.go:34", after := #[{ on := 2, ground := Go.Ground.data }], guard := none }) (v := ?_) rfl (by kernel_rfl) (by kernel_rfl) (by kernel_rfl) (fun _ _ _ h => h) (Or.inl ⟨by rfl, ?_⟩) hH ?_; rotate_left; (focus (intro wS hSw; (try dsimp only at hSw); go_simp; (try with_reducible rfl))); simp only [Act.put, List.setIfInBounds_toArray, List.set_cons_zero, List.set_cons_succ]
            refine wpAnyH_ready (rs := [4]) (by kernel_rfl) (by simp) ?_
            refine AllReadyH.cons (o := { dst := some 17, op := Go.Op.call { callee := Go.Callee.value (Go.Operand.func 143), args := #[Go.Operand.tmp 16], argTypes := #[9] }, type := 4, pos := "may.go:34", after := #[{ on := 3, ground := Go.Ground.data }], guard := none }) rfl (fun K hK => ?_) AllReadyH.nil
            go_simp
            go_at_call 143
            with_reducible refine (HNM.out _).mono ?_
            rintro e1 w1 ⟨rfl, rfl⟩
            (try go_wp2_with fail)
            refine hK.out _ _ hH (fun hH2 => ?_)
            clear hK K hH
            have hH := hH2
            (try simp only [Act.put, List.setIfInBounds_toArray, List.set_cons_zero, List.set_cons_succ])
            refine wpAnyH_take (i := 5) (oi := { dst := some 18, op := Go.Op.unOp Go.UnOp.not 4 (Go.Operand.tmp 17), type := 4, pos := "may.go:34", after := #[{ on := 4, ground := Go.Ground.data }], guard := none }) (v := ?_) rfl (by kernel_rfl) (by kernel_rfl) (by kernel_rfl) (fun _ _ _ h => h) (Or.inl ⟨by rfl, ?_⟩) hH ?_; rotate_left; (focus (intro wS hSw; (try dsimp only at hSw); go_simp; (try with_reducible rfl))); simp only [Act.put, List.setIfInBounds_toArray, List.set_cons_zero, List.set_cons_succ]
            refine wpAnyH_take (i := 6) (oi := { dst := some 19, op := Go.Op.move (Go.Operand.tmp 18), type := 4, pos := "may.go:34", after := #[{ on := 5, ground := Go.Ground.data }, { on := 4, ground := Go.Ground.chain }], guard := none }) (v := ?_) rfl (by kernel_rfl) (by kernel_rfl) (by kernel_rfl) (fun _ _ _ h => h) (Or.inl ⟨by rfl, ?_⟩) hH ?_; rotate_left; (focus (intro wS hSw; (try dsimp only at hSw); go_simp; (try with_reducible rfl))); simp only [Act.put, List.setIfInBounds_toArray, List.set_cons_zero, List.set_cons_succ]
            refine wpAnyH_take (i := 7) (oi := { dst := some 20, op := Go.Op.move (Go.Operand.tmp 3), type := 3, pos := "may.go:34", after := #[{ on := 6, ground := Go.Ground.guard }], guard := some (6, false) }) (v := ?_) rfl (by kernel_rfl) (by kernel_rfl) (by kernel_rfl) (fun _ _ _ h => h) (Or.inl ⟨by rfl, ?_⟩) hH ?_; rotate_left; (focus (intro wS hSw; (try dsimp only at hSw); go_simp; (try with_reducible rfl))); simp only [Act.put, List.setIfInBounds_toArray, List.set_cons_zero, List.set_cons_succ]
            refine wpAnyH_take (i := 8) (oi := { dst := some 21, op := Go.Op.binOp Go.BinOp.gtr 3 (Go.Operand.tmp 20) (Go.Operand.const (Go.Value.int Go.IntKind.i64 0)) 3, type := 4, pos := "may.go:34", after := #[{ on := 7, ground := Go.Ground.data }, { on := 6, ground := Go.Ground.guard }], guard := some (6, false) }) (v := .bool false) rfl (by kernel_rfl) (by kernel_rfl) (by kernel_rfl) (fun _ _ _ h => h) (Or.inl ⟨by rfl, ?_⟩) hH ?_; (focus (intro wS hSw; (try dsimp only at hSw); go_simp; (try with_reducible rfl))); simp only [Act.put, List.setIfInBounds_toArray, List.set_cons_zero, List.set_cons_succ]
            refine wpAnyH_take (i := 9) (oi := { dst := some 22, op := Go.Op.move (Go.Operand.tmp 21), type := 4, pos := "may.go:34", after := #[{ on := 8, ground := Go.Ground.data }, { on := 6, ground := Go.Ground.chain }, { on := 6, ground := Go.Ground.guard }], guard := some (6, false) }) (v := ?_) rfl (by kernel_rfl) (by kernel_rfl) (by kernel_rfl) (fun _ _ _ h => h) (Or.inl ⟨by rfl, ?_⟩) hH ?_; rotate_left; (focus (intro wS hSw; (try dsimp only at hSw); go_simp; (try with_reducible rfl))); simp only [Act.put, List.setIfInBounds_toArray, List.set_cons_zero, List.set_cons_succ]
            refine wpAnyH_take (i := 10) (oi := { dst := some 23, op := Go.Op.move (Go.Operand.tmp 4), type := 227, pos := "may.go:34", after := #[{ on := 9, ground := Go.Ground.guard }], guard := some (9, true) }) (v := undef) rfl (by kernel_rfl) (by kernel_rfl) (by kernel_rfl) (fun _ _ _ h => h) (Or.inr ⟨by rfl, rfl⟩) hH ?_; simp only [Act.put, List.setIfInBounds_toArray, List.set_cons_zero, List.set_cons_succ]
            refine wpAnyH_take (i := 11) (oi := { dst := some 24, op := Go.Op.nilCheck (Go.Operand.tmp 23), type := 0, pos := "may.go:34", after := #[{ on := 10, ground := Go.Ground.data }, { on := 9, ground := Go.Ground.guard }], guard := some (9, true) }) (v := undef) rfl (by kernel_rfl) (by kernel_rfl) (by kernel_rfl) (fun _ _ _ h => h) (Or.inr ⟨by rfl, rfl⟩) hH ?_; simp only [Act.put, List.setIfInBounds_toArray, List.set_cons_zero, List.set_cons_succ]
            refine wpAnyH_take (i := 12) (oi := { dst := some 25, op := Go.Op.fieldAddr 68 (Go.Operand.tmp 24) 0, type := 0, pos := "may.go:34", after := #[{ on := 11, ground := Go.Ground.data }, { on := 9, ground := Go.Ground.guard }], guard := some (9, true) }) (v := undef) rfl (by kernel_rfl) (by kernel_rfl) (by kernel_rfl) (fun _ _ _ h => h) (Or.inr ⟨by rfl, rfl⟩) hH ?_; simp only [Act.put, List.setIfInBounds_toArray, List.set_cons_zero, List.set_cons_succ]
            refine wpAnyH_take (i := 13) (oi := { dst := some 26, op := Go.Op.load 9 (Go.Operand.tmp 25), type := 9, pos := "may.go:34", after := #[{ on := 12, ground := Go.Ground.data }, { on := 9, ground := Go.Ground.guard }], guard := some (9, true) }) (v := undef) rfl (by kernel_rfl) (by kernel_rfl) (by kernel_rfl) (fun _ _ _ h => h) (Or.inr ⟨by rfl, rfl⟩) hH ?_; simp only [Act.put, List.setIfInBounds_toArray, List.set_cons_zero, List.set_cons_succ]
            refine wpAnyH_take (i := 14) (oi := { dst := some 27, op := Go.Op.move (Go.Operand.tmp 0), type := 56, pos := "may.go:34", after := #[{ on := 9, ground := Go.Ground.guard }], guard := some (9, true) }) (v := undef) rfl (by kernel_rfl) (by kernel_rfl) (by kernel_rfl) (fun _ _ _ h => h) (Or.inr ⟨by rfl, rfl⟩) hH ?_; simp only [Act.put, List.setIfInBounds_toArray, List.set_cons_zero, List.set_cons_succ]
            refine wpAnyH_take (i := 15) (oi := { dst := some 28, op := Go.Op.move (Go.Operand.tmp 3), type := 3, pos := "may.go:34", after := #[{ on := 9, ground := Go.Ground.guard }], guard := some (9, true) }) (v := undef) rfl (by kernel_rfl) (by kernel_rfl) (by kernel_rfl) (fun _ _ _ h => h) (Or.inr ⟨by rfl, rfl⟩) hH ?_; simp only [Act.put, List.setIfInBounds_toArray, List.set_cons_zero, List.set_cons_succ]
            refine wpAnyH_take (i := 16) (oi := { dst := some 29, op := Go.Op.binOp Go.BinOp.sub 3 (Go.Operand.tmp 28) (Go.Operand.const (Go.Value.int Go.IntKind.i64 1)) 3, type := 3, pos := "may.go:34", after := #[{ on := 15, ground := Go.Ground.data }, { on := 9, ground := Go.Ground.guard }], guard := some (9, true) }) (v := undef) rfl (by kernel_rfl) (by kernel_rfl) (by kernel_rfl) (fun _ _ _ h => h) (Or.inr ⟨by rfl, rfl⟩) hH ?_; simp only [Act.put, List.setIfInBounds_toArray, List.set_cons_zero, List.set_cons_succ]
            refine wpAnyH_take (i := 17) (oi := { dst := some 30, op := Go.Op.indexAddr 56 (Go.Operand.tmp 27) (Go.Operand.tmp 29), type := 0, pos := "may.go:34", after := #[{ on := 14, ground := Go.Ground.data }, { on := 16, ground := Go.Ground.data }, { on := 9, ground := Go.Ground.guard }], guard := some (9, true) }) (v := undef) rfl (by kernel_rfl) (by kernel_rfl) (by kernel_rfl) (fun _ _ _ h => h) (Or.inr ⟨by rfl, rfl⟩) hH ?_; simp only [Act.put, List.setIfInBounds_toArray, List.set_cons_zero, List.set_cons_succ]
            refine wpAnyH_take (i := 18) (oi := { dst := some 31, op := Go.Op.fieldAddr 68 (Go.Operand.tmp 30) 0, type := 0, pos := "may.go:34", after := #[{ on := 17, ground := Go.Ground.data }, { on := 9, ground := Go.Ground.guard }], guard := some (9, true) }) (v := undef) rfl (by kernel_rfl) (by kernel_rfl) (by kernel_rfl) (fun _ _ _ h => h) (Or.inr ⟨by rfl, rfl⟩) hH ?_; simp only [Act.put, List.setIfInBounds_toArray, List.set_cons_zero, List.set_cons_succ]
            refine wpAnyH_take (i := 19) (oi := { dst := some 32, op := Go.Op.load 9 (Go.Operand.tmp 31), type := 9, pos := "may.go:34", after := #[{ on := 18, ground := Go.Ground.data }, { on := 9, ground := Go.Ground.guard }], guard := some (9, true) }) (v := undef) rfl (by kernel_rfl) (by kernel_rfl) (by kernel_rfl) (fun _ _ _ h => h) (Or.inr ⟨by rfl, rfl⟩) hH ?_; simp only [Act.put, List.setIfInBounds_toArray, List.set_cons_zero, List.set_cons_succ]
            refine wpAnyH_take (i := 20) (oi := { dst := some 33, op := Go.Op.binOp Go.BinOp.leq 9 (Go.Operand.tmp 26) (Go.Operand.tmp 32) 9, type := 4, pos := "may.go:34", after := #[{ on := 13, ground := Go.Ground.data }, { on := 19, ground := Go.Ground.data }, { on := 9, ground := Go.Ground.guard }], guard := some (9, true) }) (v := undef) rfl (by kernel_rfl) (by kernel_rfl) (by kernel_rfl) (fun _ _ _ h => h) (Or.inr ⟨by rfl, rfl⟩) hH ?_; simp only [Act.put, List.setIfInBounds_toArray, List.set_cons_zero, List.set_cons_succ]
            refine wpAnyH_take (i := 21) (oi := { dst := some 34, op := Go.Op.pick (Go.Operand.tmp 22) (Go.Operand.tmp 33) (Go.Operand.const (Go.Value.bool false)), type := 4, pos := "may.go:34", after := #[{ on := 9, ground := Go.Ground.data }, { on := 20, ground := Go.Ground.data }, { on := 6, ground := Go.Ground.guard }], guard := some (6, false) }) (v := ?_) rfl (by kernel_rfl) (by kernel_rfl) (by kernel_rfl) (fun _ _ _ h => h) (Or.inl ⟨by rfl, ?_⟩) hH ?_; rotate_left; (focus (intro wS hSw; (try dsimp only at hSw); go_simp; (try with_reducible rfl))); simp only [Act.put, List.setIfInBounds_toArray, List.set_cons_zero, List.set_cons_succ]
            refine wpAnyH_take (i := 22) (oi := { dst := some 35, op := Go.Op.pick (Go.Operand.tmp 19) (Go.Operand.const (Go.Value.bool true)) (Go.Operand.tmp 34), type := 4, pos := "may.go:34", after := #[{ on := 6, ground := Go.Ground.data }, { on := 21, ground := Go.Ground.data }], guard := none }) (v := ?_) rfl (by kernel_rfl) (by kernel_rfl) (by kernel_rfl) (fun _ _ _ h => h) (Or.inl ⟨by rfl, ?_⟩) hH ?_; rotate_left; (focus (intro wS hSw; (try dsimp only at hSw); go_simp; (try with_reducible rfl))); simp only [Act.put, List.setIfInBounds_toArray, List.set_cons_zero, List.set_cons_succ]
            refine wpAnyH_take (i := 23) (oi := { dst := some 36, op := Go.Op.move (Go.Operand.tmp 35), type := 4, pos := "may.go:34", after := #[{ on := 22, ground := Go.Ground.data }, { on := 9, ground := Go.Ground.chain }], guard := none }) (v := ?_) rfl (by kernel_rfl) (by kernel_rfl) (by kernel_rfl) (fun _ _ _ h => h) (Or.inl ⟨by rfl, ?_⟩) hH ?_; rotate_left; (focus (intro wS hSw; (try dsimp only at hSw); go_simp; (try with_reducible rfl))); simp only [Act.put, List.setIfInBounds_toArray, List.set_cons_zero, List.set_cons_succ]
            refine wpAnyH_take (i := 24) (oi := { dst := some 37, op := Go.Op.move (Go.Operand.tmp 4), type := 227, pos := "may.go:34", after := #[{ on := 23, ground := Go.Ground.guard }], guard := some (23, false) }) (v := ?_) rfl (by kernel_rfl) (by kernel_rfl) (by kernel_rfl) (fun _ _ _ h => h) (Or.inl ⟨by rfl, ?_⟩) hH ?_; rotate_left; (focus (intro wS hSw; (try dsimp only at hSw); go_simp; (try with_reducible rfl))); simp only [Act.put, List.setIfInBounds_toArray, List.set_cons_zero, List.set_cons_succ]
            refine wpAnyH_take (i := 25) (oi := { dst := some 38, op := Go.Op.nilCheck (Go.Operand.tmp 37), type := 0, pos := "may.go:34", after := #[{ on := 24, ground := Go.Ground.data }, { on := 23, ground := Go.Ground.guard }], guard := some (23, false) }) (v := ?_) rfl (by kernel_rfl) (by kernel_rfl) (by kernel_rfl) (fun _ _ _ h => h) (Or.inl ⟨by rfl, ?_⟩) hH ?_; rotate_left; (focus (intro wS hSw; (try dsimp only at hSw); go_simp; (try with_reducible rfl))); simp only [Act.put, List.setIfInBounds_toArray, List.set_cons_zero, List.set_cons_succ]
            refine wpAnyH_take (i := 26) (oi := { dst := some 39, op := Go.Op.fieldAddr 68 (Go.Operand.tmp 38) 1, type := 0, pos := "may.go:34", after := #[{ on := 25, ground := Go.Ground.data }, { on := 23, ground := Go.Ground.guard }], guard := some (23, false) }) (v := ?_) rfl (by kernel_rfl) (by kernel_rfl) (by kernel_rfl) (fun _ _ _ h => h) (Or.inl ⟨by rfl, ?_⟩) hH ?_; rotate_left; (focus (intro wS hSw; (try dsimp only at hSw); go_simp; (try with_reducible rfl))); simp only [Act.put, List.setIfInBounds_toArray, List.set_cons_zero, List.set_cons_succ]
            refine wpAnyH_take (i := 27) (oi := { dst := some 40, op := Go.Op.load 66 (Go.Operand.tmp 39), type := 66, pos := "may.go:34", after := #[{ on := 26, ground := Go.Ground.data }, { on := 23, ground := Go.Ground.guard }], guard := some (23, false) }) (v := ?_) rfl (by kernel_rfl) (by kernel_rfl) (by kernel_rfl) (fun _ _ _ h => h) (Or.inl ⟨by rfl, ?_⟩) hH ?_; rotate_left; (focus (intro wS hSw; (try dsimp only at hSw); go_simp; (try with_reducible rfl))); simp only [Act.put, List.setIfInBounds_toArray, List.set_cons_zero, List.set_cons_succ]
            refine wpAnyH_ready (rs := [28]) (by kernel_rfl) (by simp) ?_
            refine AllReadyH.cons (o := { dst := some 41, op := Go.Op.call { callee := Go.Callee.value (Go.Operand.func 166), args := #[Go.Operand.tmp 40], argTypes := #[66] }, type := 4, pos := "may.go:34", after := #[{ on := 27, ground := Go.Ground.data }, { on := 23, ground := Go.Ground.chain }, { on := 23, ground := Go.Ground.guard }], guard := some (23, false) }) rfl (fun K hK => ?_) AllReadyH.nil
            go_simp
            go_at_call 166
            with_reducible refine (HPL2.out _ hH.1).mono ?_
            rintro e2 w2 ⟨rfl, hb2⟩
            have hb3 := hH.1.trans (hb2.mono hH.1.size)
            (try go_wp2_with fail)
            refine hK.out _ _ ⟨hb3, HC.out _ hb3⟩ (fun hH2 => ?_)
            clear hK K hH
            have hH := hH2
            (try simp only [Act.put, List.setIfInBounds_toArray, List.set_cons_zero, List.set_cons_succ])
            refine wpAnyH_take (i := 29) (oi := { dst := some 42, op := Go.Op.unOp Go.UnOp.not 4 (Go.Operand.tmp 41), type := 4, pos := "may.go:34", after := #[{ on := 28, ground := Go.Ground.data }, { on := 23, ground := Go.Ground.guard }], guard := some (23, false) }) (v := ?_) rfl (by kernel_rfl) (by kernel_rfl) (by kernel_rfl) (fun _ _ _ h => h) (Or.inl ⟨by rfl, ?_⟩) hH ?_; rotate_left; (focus (intro wS hSw; (try dsimp only at hSw); go_simp; (try with_reducible rfl))); simp only [Act.put, List.setIfInBounds_toArray, List.set_cons_zero, List.set_cons_succ]
            refine wpAnyH_take (i := 30) (oi := { dst := some 43, op := Go.Op.pick (Go.Operand.tmp 36) (Go.Operand.const (Go.Value.bool true)) (Go.Operand.tmp 42), type := 4, pos := "may.go:34", after := #[{ on := 23, ground := Go.Ground.data }, { on := 29, ground := Go.Ground.data }], guard := none }) (v := ?_) rfl (by kernel_rfl) (by kernel_rfl) (by kernel_rfl) (fun _ _ _ h => h) (Or.inl ⟨by rfl, ?_⟩) hH ?_; rotate_left; (focus (intro wS hSw; (try dsimp only at hSw); go_simp; (try with_reducible rfl))); simp only [Act.put, List.setIfInBounds_toArray, List.set_cons_zero, List.set_cons_succ]
            refine wpAnyH_done (by kernel_rfl) ?_ _
            go_wp2_with fail
            go_roundw
            case rel => exact ⟨1, by omega, by go_num, R.out, hb3⟩
            case measure => simp [intOf]; omega
        · obtain ⟨j, hj⟩ : ∃ j, k = j + 1 := ⟨k - 1, by omega⟩
          have g0 : (0 : Int) < (k : Int) := by omega
          have g1 : IntKind.i64.wrap ((k : Int) - 1) = (j : Int) := by rw [IntWalk.i64_in _ (by omega)]; omega
          have g2 : (j : Int) < (al : Int) := by omega
          have g3 : (0 : Int) ≤ (j : Int) := by omega
          obtain ⟨hup, hprev⟩ := HUP.out j hj
          clear hj
          generalize an j = y at hup hprev
          have d0 := hprev wr hb
          have HCj := Lib.hid hprev
          clear hprev
          cases q1 : Op.bytesLess x.toList y.toList
          · cases q2 : x.toList == y.toList
            · have hu : qu = false := by rw [hup, bLe, q1, q2]; rfl
              have hd0 : Below w.heap.size w wr.drew ∧ wr.drew.cell? ⟨b, o + j * 9, none⟩ = some (.string y) := ⟨hbd, HCj.out _ hbd⟩
              cases hq : q with
              | false =>
                have R := Lib.hid (HF.out (HA3.out hq))
                rw [hq] at HPL2
                clear HA3 HA4 HA1 HA2 HG HF
                go_upto_region 5 with fail
                go_region_held3 (fun W => Below w.heap.size w W ∧ (W.cell? ⟨b, o + k * 9, none⟩ = some (.string x) ∧ W.cell? ⟨b, o + k * 9 + 1, none⟩ = some (.int .u8 vk) ∧ W.cell? ⟨b, o + k * 9 + 2, none⟩ = some (.int .i64 vn) ∧ W.cell? ⟨b, o + k * 9 + 3, none⟩ = some (.string vs) ∧ W.cell? ⟨b, o + k * 9 + 4, none⟩ = some (.slice vla vll vlc) ∧ W.cell? ⟨b, o + k * 9 + 5, none⟩ = some (.slice vfa vfl vfc) ∧ W.cell? ⟨b, o + k * 9 + 6, none⟩ = some (.int .u8 ve) ∧ W.cell? ⟨b, o + k * 9 + 7, none⟩ = some (.string vkey) ∧ W.cell? ⟨b, o + k * 9 + 8, none⟩ = some (.bool vhk)) ∧ W.cell? ⟨b, o + j * 9, none⟩ = some (.string y))
                  (first | with_reducible exact ⟨hbd, HC.out _ hbd, hd0.2⟩ | with_reducible exact hkk)
                  (first
                    | (go_at_call 143; (with_reducible refine (HNM.out _).mono ?_); rintro e1 w1 ⟨rfl, rfl⟩)
                    | (go_at_call 166; (with_reducible refine (HPL2.out _ hbd).mono ?_); rintro e2 w2 ⟨rfl, hb2⟩; have hb3 := hbd.trans (hb2.mono hbd.size); have hkk := (And.intro hb3 (And.intro (HC.out _ hb3) (HCj.out _ hb3)))))
                go_wp2_with fail
                go_ret
                exact ⟨R.out, hkk.1⟩
              | true =>
                have R := Lib.hid (HG.out (HA4.out hnm hu hq))
                rw [hq] at HPL2
                clear HA3 HA4 HA1 HA2 HG HF
                go_upto_region 5 with fail
                go_region_held3 (fun W => Below w.heap.size w W ∧ (W.cell? ⟨b, o + k * 9, none⟩ = some (.string x) ∧ W.cell? ⟨b, o + k * 9 + 1, none⟩ = some (.int .u8 vk) ∧ W.cell? ⟨b, o + k * 9 + 2, none⟩ = some (.int .i64 vn) ∧ W.cell? ⟨b, o + k * 9 + 3, none⟩ = some (.string vs) ∧ W.cell? ⟨b, o + k * 9 + 4, none⟩ = some (.slice vla vll vlc) ∧ W.cell? ⟨b, o + k * 9 + 5, none⟩ = some (.slice vfa vfl vfc) ∧ W.cell? ⟨b, o + k * 9 + 6, none⟩ = some (.int .u8 ve) ∧ W.cell? ⟨b, o + k * 9 + 7, none⟩ = some (.string vkey) ∧ W.cell? ⟨b, o + k * 9 + 8, none⟩ = some (.bool vhk)) ∧ W.cell? ⟨b, o + j * 9, none⟩ = some (.string y))
                  (first | with_reducible exact ⟨hbd, HC.out _ hbd, hd0.2⟩ | with_reducible exact hkk)
                  (first
                    | (go_at_call 143; (with_reducible refine (HNM.out _).mono ?_); rintro e1 w1 ⟨rfl, rfl⟩)
                    | (go_at_call 166; (with_reducible refine (HPL2.out _ hbd).mono ?_); rintro e2 w2 ⟨rfl, hb2⟩; have hb3 := hbd.trans (hb2.mono hbd.size); have hkk := (And.intro hb3 (And.intro (HC.out _ hb3) (HCj.out _ hb3)))))
                go_wp2_with fail
                go_roundw
                case rel => exact ⟨k + 1, by omega, by go_num, R.out, hkk.1⟩
                case measure => simp [intOf]; omega
            · have hu : qu = true := by rw [hup, bLe, q2]; simp
              have R := Lib.hid (HF.out (HA2.out hu))
              clear HA1 HA2 HA3 HA4
              go_upto_region 5 with fail
              go_quiet ((go_at_call 143; exact Calls.quiet_of_same (HNM.out _)))
              go_wp2_with fail
              go_ret
              exact ⟨R.out, hb.trans ((below_drewN wr _).mono hb.size)⟩
          · have hu : qu = true := by rw [hup, bLe, q1]; rfl
            have R := Lib.hid (HF.out (HA2.out hu))
            clear HA1 HA2 HA3 HA4
            go_upto_region 5 with fail
            go_quiet ((go_at_call 143; exact Calls.quiet_of_same (HNM.out _)))
            go_wp2_with fail
            go_ret
            exact ⟨R.out, hb.trans ((below_drewN wr _).mono hb.size)⟩
    · obtain rfl : k = al := by omega
      have R := Lib.hid (show Ending.returned (.bool true) = .returned (.bool (allB k (aOk an A))) by rw [HH.out.all])
      go_wp2_with fail
      go_ret
      exact ⟨R.out, hb⟩
end Go.Proofs.YtajmdhcknmmbbaaGreatDoor.Sh
namespace Go.Proofs.YtajmdhcknmmbbaaGreatDoor.Sh
set_option linter.unusedVariables false
set_option linter.unusedSimpArgs false
open Go.Proofs.YtajmdhcknmmbbaaGreatDoor Go.RowKit Go.Deep

set_option maxRecDepth 100000 in
set_option maxHeartbeats 1000000 in
theorem isHost_any (id : Int) (tag text : ByteArray) (aa : Option Addr) (al ac : Nat) (an : Nat → ByteArray) (A : Nat → V) (ka : Option Addr) (kl kc : Nat) (w : World) (b o : Nat) (h : At w b o [.int .i64 id, .string tag, .string text, .slice aa al ac, .slice ka kl kc]) (hA : FsIn w aa al an A) (hlc : al ≤ ac ∧ ac ≤ maxLen) (hr : RowsAt w) :
    Calls Tryz.prog 92 #[.pointer (some ⟨b, o, none⟩)] w fun e w' => e = .returned (.bool (hostB tag text al an A)) ∧ Below w.heap.size w w' := by
  have c1 : w.cell? ⟨b, o + 1, none⟩ = some (.string tag) := h 1 (by simp)
  have c2 : w.cell? ⟨b, o + 2, none⟩ = some (.string text) := h 2 (by simp)
  have c3 : w.cell? ⟨b, o + 3, none⟩ = some (.slice aa al ac) := h 3 (by simp)
  have HN := Lib.hid (isName_any tag)
  have HA := Lib.hid (areAttrs_any aa al ac an A w hA hlc hr)
  clear h hA hlc hr
  obtain ⟨q, hq⟩ : ∃ q, hostB tag text al an A = q := ⟨_, rfl⟩
  rw [hq]
  unfold hostB at hq
  generalize allB al (aOk an A) = ok at hq HA
  cases h1 : nameB tag with
  | false =>
    rw [h1] at hq HN
    have hq : false = q := hq
    subst hq
    go_enter Tryz.func92, Tryz.ntmps92
    go_wp2_with (go_at_call 143; (with_reducible refine (HN.out _).mono ?_); rintro e1 w1 ⟨rfl, rfl⟩)
    go_ret
    exact ⟨rfl, Below.refl _ _⟩
  | true =>
    rw [h1] at hq HN
    cases h2 : text.toList == [] with
    | false =>
      rw [h2] at hq
      have hq : false = q := hq
      subst hq
      go_enter Tryz.func92, Tryz.ntmps92
      go_wp2_with (go_at_call 143; (with_reducible refine (HN.out _).mono ?_); rintro e1 w1 ⟨rfl, rfl⟩)
      go_ret
      exact ⟨rfl, Below.refl _ _⟩
    | true =>
      rw [h2] at hq
      have hq : ok = q := hq
      subst hq
      go_enter Tryz.func92, Tryz.ntmps92
      go_wp2_with (first
        | (go_at_call 143; (with_reducible refine (HN.out _).mono ?_); rintro e1 w1 ⟨rfl, rfl⟩)
        | (go_at_call 144; (with_reducible refine HA.out.mono ?_); rintro e2 w2 ⟨rfl, hb2⟩))
      go_ret
      exact ⟨rfl, hb2⟩

/-- What mayBe's contract says of a node's kids. -/
def KidsMay : N → Prop
  | .leaf => True
  | .mk _ _ _ _ _ _ _ _ ka kl kc K => ∀ w, NsIn w ka kl K → RowsAt w → (kl ≤ kc ∧ kc ≤ maxLen) → Calls Tryz.prog 27 #[.slice ka kl kc] w fun e w' => e = .returned (.bool (allB kl (fun i => (K i).may))) ∧ Below w.heap.size w w'

set_option maxRecDepth 100000 in
set_option maxHeartbeats 4000000 in
theorem mayBe_list (a : Option Addr) (n c : Nat) (K : Nat → N) (ih : ∀ i, KidsMay (K i)) (w : World) (h : NsIn w a n K) (hr : RowsAt w) (hlc : n ≤ c ∧ c ≤ maxLen) :
    Calls Tryz.prog 27 #[.slice a n c] w fun e w' => e = .returned (.bool (allB n (fun i => (K i).may))) ∧ Below w.heap.size w w' := by
  unfold maxLen at hlc
  have H := Lib.hid h
  have HR := Lib.hid hr
  have HI := Lib.hid ih
  clear h hr ih
  go_enter Tryz.func27, Tryz.ntmps27
  go_wp2_with fail
  go_loopw [7] (fun i wr => ∃ k : Nat, k ≤ n ∧ i = .int .i64 k ∧ HeldTo k (fun i => (K i).may) ∧ Below w.heap.size w wr) (fun i _ => n - (intOf i).toNat)
  case atStart => exact ⟨0, Nat.zero_le _, rfl, HeldTo.zero, Below.refl _ _⟩
  case round =>
    obtain ⟨k, hk, rfl, hheld, hb⟩ := hrel
    have HH := Lib.hid hheld
    clear hheld
    by_cases hlt : k < n
    · obtain ⟨⟨b, o, rfl, hat⟩, hin⟩ := H.out k hlt
      have hat' := hat.mono fun _ ha => hb.cell ha
      have hin' := hin.below hb
      have HF := Lib.hid (show (K k).may = false → Ending.returned (.bool false) = .returned (.bool (allB n (fun i => (K i).may))) from fun h1 => by rw [allB_false hlt h1])
      have HG := Lib.hid (show (K k).may = true → HeldTo (k + 1) (fun i => (K i).may) from fun h1 => HH.out.succ h1)
      have hkm := HI.out k
      clear hat hin
      generalize K k = x at hat' hin' HF HG hkm
      cases x with
      | leaf => exact hin'.elim
      | mk id tag text aa al ac an A ka kl kc K' =>
      obtain ⟨h1, h2, h3, h4, h5, hA, hK⟩ := hin'
      have HT := Lib.hid (isText_any id tag text aa al ac ka kl kc wr b (o + k * 5) hat')
      have HO := Lib.hid (isHost_any id tag text aa al ac an A ka kl kc wr b (o + k * 5) hat' hA h4 (HR.out.below hb))
      have HKM : Hid (∀ W, Below wr.heap.size wr W → Calls Tryz.prog 27 #[.slice ka kl kc] W fun e w' => e = .returned (.bool (allB kl (fun i => (K' i).may))) ∧ Below W.heap.size W w') := Lib.hid fun W hW => hkm W (NsIn.below hW hK) ((HR.out.below hb).below hW) h5
      have c4 : wr.cell? ⟨b, o + k * 5 + 4, none⟩ = some (.slice ka kl kc) := hat' 4 (by simp [N.cells])
      have HC4 : Hid (∀ W, Below wr.heap.size wr W → W.cell? ⟨b, o + k * 5 + 4, none⟩ = some (.slice ka kl kc)) := Lib.hid fun W hW => (hW.cell (World.block_lt_of_cell? _ _ c4)).trans c4
      have hm : (N.mk id tag text aa al ac an A ka kl kc K').may = ((textB tag text al kl || hostB tag text al an A) && allB kl (fun i => (K' i).may)) := rfl
      rw [hm] at HF HG
      clear hat' hA hK hkm hm h1 h2 h3 h4 h5
      generalize textB tag text al kl = tb at HT HF HG
      generalize hostB tag text al an A = hb' at HO HF HG
      generalize allB kl (fun i => (K' i).may) = kb at HKM HF HG
      cases tb with
      | true =>
        cases kb with
        | false =>
          have R := Lib.hid (HF.out rfl)
          clear HF HG
          go_wp2_with (first
            | (go_at_call 91; (with_reducible refine HT.out.mono ?_); rintro e1 w1 ⟨rfl, rfl⟩)
            | (go_at_call 27; (with_reducible refine (HKM.out _ (Below.refl _ _)).mono ?_); rintro e2 w2 ⟨rfl, hb2⟩))
          go_ret
          exact ⟨R.out, hb.trans (hb2.mono hb.size)⟩
        | true =>
          have R := Lib.hid (HG.out rfl)
          clear HF HG
          go_wp2_with (first
            | (go_at_call 91; (with_reducible refine HT.out.mono ?_); rintro e1 w1 ⟨rfl, rfl⟩)
            | (go_at_call 27; (with_reducible refine (HKM.out _ (Below.refl _ _)).mono ?_); rintro e2 w2 ⟨rfl, hb2⟩))
          go_roundw
          case rel => exact ⟨k + 1, by omega, by go_num, R.out, hb.trans (hb2.mono hb.size)⟩
          case measure => simp [intOf]; omega
      | false =>
        cases hb' with
        | false =>
          have R := Lib.hid (HF.out rfl)
          clear HF HG
          go_wp2_with (first
            | (go_at_call 91; (with_reducible refine HT.out.mono ?_); rintro e1 w1 ⟨rfl, rfl⟩)
            | (go_at_call 92; (with_reducible refine HO.out.mono ?_); rintro e2 w2 ⟨rfl, hb2⟩))
          go_ret
          exact ⟨R.out, hb.trans (hb2.mono hb.size)⟩
        | true =>
          cases kb with
          | false =>
            have R := Lib.hid (HF.out rfl)
            clear HF HG
            go_wp2_with (first
              | (go_at_call 91; (with_reducible refine HT.out.mono ?_); rintro e1 w1 ⟨rfl, rfl⟩)
              | (go_at_call 92; (with_reducible refine HO.out.mono ?_); rintro e2 w2 ⟨rfl, hb2⟩; have d4 := HC4.out _ hb2)
              | (go_at_call 27; (with_reducible refine (HKM.out _ hb2).mono ?_); rintro e3 w3 ⟨rfl, hb3⟩))
            go_ret
            exact ⟨R.out, (hb.trans (hb2.mono hb.size)).trans (hb3.mono (Nat.le_trans hb.size hb2.size))⟩
          | true =>
            have R := Lib.hid (HG.out rfl)
            clear HF HG
            go_wp2_with (first
              | (go_at_call 91; (with_reducible refine HT.out.mono ?_); rintro e1 w1 ⟨rfl, rfl⟩)
              | (go_at_call 92; (with_reducible refine HO.out.mono ?_); rintro e2 w2 ⟨rfl, hb2⟩; have d4 := HC4.out _ hb2)
              | (go_at_call 27; (with_reducible refine (HKM.out _ hb2).mono ?_); rintro e3 w3 ⟨rfl, hb3⟩))
            go_roundw
            case rel => exact ⟨k + 1, by omega, by go_num, R.out, (hb.trans (hb2.mono hb.size)).trans (hb3.mono (Nat.le_trans hb.size hb2.size))⟩
            case measure => simp [intOf]; omega
    · obtain rfl : k = n := by omega
      have R := Lib.hid (show Ending.returned (.bool true) = .returned (.bool (allB k (fun i => (K i).may))) by rw [HH.out.all])
      go_wp2_with fail
      go_ret
      exact ⟨R.out, hb⟩
theorem kids_may : ∀ n : N, KidsMay n := by
  intro n
  induction n with
  | leaf => trivial
  | mk id tag text aa al ac an A ka kl kc K ih => exact fun w h hr hlc => mayBe_list ka kl kc K ih w h hr hlc
theorem mayBe_any (a : Option Addr) (n c : Nat) (K : Nat → N) (w : World) (h : NsIn w a n K) (hr : RowsAt w) (hlc : n ≤ c ∧ c ≤ maxLen) :
    Calls Tryz.prog 27 #[.slice a n c] w fun e w' => e = .returned (.bool (allB n (fun i => (K i).may))) ∧ Below w.heap.size w w' :=
  mayBe_list a n c K (fun i => kids_may (K i)) w h hr hlc
end Go.Proofs.YtajmdhcknmmbbaaGreatDoor.Sh
