/-
  Walks: SameValue of two values of kind none; what do, Takes, Names say of one another.
  Conditions: none.
  Walks: OperMay returns true; old memory is as it was.
  Conditions: the values lie in memory; the three tables hold what the program's text lays in them.
-/
import Derived.Test.YtjbapldlgnlepaaGreatDoorNames
import Derived.Test.YtjbapldlgnlepaaGreatDoorOpDo
import Derived.Test.YtjbapldlgnlepaaGreatDoorListsP
import Derived.Test.YtjbapldlgnlepaaGreatDoorBeyond
import Derived.Deep.DeepCutAuto
import Derived.IntWalk
namespace Go.Proofs.YtjbapldlgnlepaaGreatDoor
open Go.RowKit Go.Deep Go.WideShapes Go.Sort

set_option maxHeartbeats 1000000 in
theorem sameValues_nil (w : World) : Calls Tryz.prog 81 #[.slice none 0 0, .slice none 0 0] w fun e w' => e = .returned (.bool true) ∧ w = w' := by
  go_enter Tryz.func81, Tryz.ntmps81
  go_wp2_with fail
  go_loopw [5] (fun i wr => i = .int .i64 0 ∧ w = wr) (fun _ _ => 0)
  case atStart => exact ⟨rfl, rfl⟩
  case round =>
    obtain ⟨rfl, rfl⟩ := hrel
    go_wp2_with fail
    go_ret
    exact ⟨rfl, rfl⟩
set_option maxHeartbeats 1000000 in
theorem sameFields_nil (w : World) : Calls Tryz.prog 82 #[.slice none 0 0, .slice none 0 0] w fun e w' => e = .returned (.bool true) ∧ w = w' := by
  go_enter Tryz.func82, Tryz.ntmps82
  go_wp2_with fail
  go_loopw [5] (fun i wr => i = .int .i64 0 ∧ w = wr) (fun _ _ => 0)
  case atStart => exact ⟨rfl, rfl⟩
  case round =>
    obtain ⟨rfl, rfl⟩ := hrel
    go_wp2_with fail
    go_ret
    exact ⟨rfl, rfl⟩
set_option maxHeartbeats 4000000 in
theorem sameValue_nil (w : World) : Calls Tryz.prog 17 #[nv.agg, nv.agg] w fun e w' => e = .returned (.bool true) ∧ Below w.heap.size w w' := by
  have H1 := Lib.hid (fun W => sameValues_nil W)
  have HB := Lib.hid (fun O O' => (below_alloc w O).trans ((below_alloc (w.alloc O) O').mono (by simp)))
  have H2 := Lib.hid (fun W => sameFields_nil W)
  simp only [nv, vz, V.agg, V.cells]
  go_enter Tryz.func17, Tryz.ntmps17
  go_wp2_with (first
    | (go_at_call 81; (with_reducible refine (H1.out _).mono ?_); rintro x w1 ⟨rfl, rfl⟩)
    | (go_at_call 82; (with_reducible refine (H2.out _).mono ?_); rintro x w2 ⟨rfl, rfl⟩))
  go_ret
  exact ⟨rfl, HB.out _ _⟩

/-- The names, rising. -/
def nmS (i : Nat) : ByteArray := opName (srtN i)
/-- Is it one of the first? -/
def lstTo (name : ByteArray) : Nat → Bool
  | 0 => false
  | k + 1 => lstTo name k || ((nmS k).toList == name.toList)
theorem lstTo_iff (name : ByteArray) : ∀ k, lstTo name k = true ↔ ∃ i, i < k ∧ nmS i = name
  | 0 => by simp [lstTo]
  | k + 1 => by
    have ih := lstTo_iff name k
    rw [lstTo, Bool.or_eq_true, ih]
    constructor
    · rintro (⟨i, hi, he⟩ | h)
      · exact ⟨i, by omega, he⟩
      · refine ⟨k, by omega, ?_⟩
        exact Decidable.byContradiction fun hne => by
          have := bytes_ne hne
          rw [h] at this
          cases this
    · rintro ⟨i, hi, he⟩
      rcases Nat.lt_succ_iff_lt_or_eq.1 hi with h1 | rfl
      · exact .inl ⟨i, h1, he⟩
      · exact .inr (by rw [he]; simp)
theorem srt_all : ∀ k, k < 13 → ∃ i, i < 13 ∧ srtN i = k := by decide
theorem srt_lt : ∀ i, i < 13 → srtN i < 13 := by decide
theorem listed_eq (name : ByteArray) : lstTo name 13 = takeB name := by
  rw [Bool.eq_iff_iff, lstTo_iff]
  unfold takeB
  cases h : opAt name with
  | none =>
    have := findF_eq_none.1 h
    simp only [Bool.false_eq_true, iff_false]
    rintro ⟨i, hi, he⟩
    exact this _ (srt_lt i hi) he
  | some k =>
    obtain ⟨h1, h2⟩ := findF_lt h
    obtain ⟨i, hi, he⟩ := srt_all k h1
    simp only [iff_true]
    exact ⟨i, hi, by rw [nmS, he, h2]⟩
theorem names_rise : ∀ i, i < 12 → Op.bytesLess (nmS i).toList (nmS (i + 1)).toList = true := by decide +kernel

theorem srt_get (i : Nat) (hi : i < 13) : (srtL.map encStr)[i]? = some (.string (nmS i)) := by
  rw [List.getElem?_map, srtL, List.getElem?_map, List.getElem?_range hi]
  simp [nmB, encStr_data, nmS]
theorem will_facts {name : ByteArray} {ll : Nat} {L : Nat → V} (h : doB name ll L = true) : takeB name = true ∧ takeL name ≤ ll ∧ (takeM name < 0 ∨ (ll : Int) ≤ takeM name) ∧ (∀ i, i < ll → (L i).check = true) ∧ (doV name ll L).check = true := by
  cases hk : opAt name with
  | none => rw [doB_none hk] at h; cases h
  | some k =>
    rw [doB_some hk] at h
    simp only [takeB, takeL, takeM, doV_some hk, hk]
    simp only [Bool.and_eq_true, takesB, Bool.or_eq_true, decide_eq_true_eq] at h
    obtain ⟨⟨h1, h2⟩, h3, h4, h5⟩ := h
    refine ⟨trivial, h1, ?_, fun i hi => ?_, h5⟩
    · rcases h2 with h2 | h2
      · exact .inl (by omega)
      · exact .inr h2
    · exact allB_true.1 h3 i hi
theorem done_check {w w' : World} {b : Bool} {x u : V} (h : DoneV w b x u w') (hc : b = true → x.check = true) : u.check = true := by
  cases b with
  | true => rw [same_check (h.yes rfl)]; exact hc rfl
  | false => rw [h.no rfl]; decide +kernel
end Go.Proofs.YtjbapldlgnlepaaGreatDoor
namespace Go.Proofs.YtjbapldlgnlepaaGreatDoor
open Go.RowKit Go.Deep Go.WideShapes
open Go.Sort hiding Below

def onez (x : Int) : Nat → Int := fun _ => x
theorem beyond1 (W : World) (x : Int) (hx : -9223372036854775808 ≤ x ∧ x ≤ 9223372036854775807) (T : TypeId) :
    Calls Tryz.prog 13 #[.slice (some ⟨W.heap.size, 0, none⟩) 1 1] (W.alloc (.cells #[.int .i64 x] T)) fun e w' => e = .returned (.bool (beyB 1 (onez x))) ∧ W.alloc (.cells #[.int .i64 x] T) = w' := by
  refine beyond_is _ _ _ _ _ _ (by decide) (fun j hj => ?_) (fun _ => hx)
  obtain rfl : j = 0 := by omega
  simp [onez]
theorem at8z {w : World} {b : Nat} {k n : Int} {s : ByteArray} {la : Option Addr} {ll lc : Nat} {L : Nat → V} {fa : Option Addr} {fl fc : Nat} {fn : Nat → ByteArray} {F : Nat → V} {e : Int} {key : ByteArray} {hk : Bool}
    (h : At w b 0 (V.mk k n s la ll lc L fa fl fc fn F e key hk).cells) :
    w.cell? ⟨b, 0, none⟩ = some (.int .u8 k) ∧ w.cell? ⟨b, 1, none⟩ = some (.int .i64 n) ∧ w.cell? ⟨b, 2, none⟩ = some (.string s) ∧ w.cell? ⟨b, 3, none⟩ = some (.slice la ll lc) ∧ w.cell? ⟨b, 4, none⟩ = some (.slice fa fl fc) ∧
      w.cell? ⟨b, 5, none⟩ = some (.int .u8 e) ∧ w.cell? ⟨b, 6, none⟩ = some (.string key) ∧ w.cell? ⟨b, 7, none⟩ = some (.bool hk) :=
  ⟨h 0 (by decide : 0 < 8), h 1 (by decide : 1 < 8), h 2 (by decide : 2 < 8), h 3 (by decide : 3 < 8), h 4 (by decide : 4 < 8), h 5 (by decide : 5 < 8), h 6 (by decide : 6 < 8), h 7 (by decide : 7 < 8)⟩
theorem at8o {w : World} {b o : Nat} {k n : Int} {s : ByteArray} {la : Option Addr} {ll lc : Nat} {L : Nat → V} {fa : Option Addr} {fl fc : Nat} {fn : Nat → ByteArray} {F : Nat → V} {e : Int} {key : ByteArray} {hk : Bool}
    (h : At w b o (V.mk k n s la ll lc L fa fl fc fn F e key hk).cells) :
    w.cell? ⟨b, o, none⟩ = some (.int .u8 k) ∧ w.cell? ⟨b, o + 1, none⟩ = some (.int .i64 n) ∧ w.cell? ⟨b, o + 2, none⟩ = some (.string s) ∧ w.cell? ⟨b, o + 3, none⟩ = some (.slice la ll lc) ∧ w.cell? ⟨b, o + 4, none⟩ = some (.slice fa fl fc) ∧
      w.cell? ⟨b, o + 5, none⟩ = some (.int .u8 e) ∧ w.cell? ⟨b, o + 6, none⟩ = some (.string key) ∧ w.cell? ⟨b, o + 7, none⟩ = some (.bool hk) :=
  ⟨h 0 (by decide : 0 < 8), h 1 (by decide : 1 < 8), h 2 (by decide : 2 < 8), h 3 (by decide : 3 < 8), h 4 (by decide : 4 < 8), h 5 (by decide : 5 < 8), h 6 (by decide : 6 < 8), h 7 (by decide : 7 < 8)⟩
theorem vals_at {W : World} {bl ol ll lc : Nat} {L : Nat → V} (h : Vals W (some ⟨bl, ol, none⟩) ll lc L) {i : Nat} (hi : i < ll) : At W bl (ol + i * 8) (L i).cells := by
  obtain ⟨⟨b2, o2, he, hat⟩, -⟩ := h.el i hi
  simp only [Option.some.injEq, Addr.mk.injEq, and_true] at he
  obtain ⟨rfl, rfl⟩ := he
  exact hat

theorem nv_at {w : World} {b : Nat} (h : At w b 0 nv.cells) : w.cell? ⟨b, 0, none⟩ = some (.int .u8 0) ∧ w.cell? ⟨b, 1, none⟩ = some (.int .i64 0) ∧ w.cell? ⟨b, 2, none⟩ = some (.string ⟨#[]⟩) ∧ w.cell? ⟨b, 3, none⟩ = some (.slice none 0 0) ∧ w.cell? ⟨b, 4, none⟩ = some (.slice none 0 0) ∧
      w.cell? ⟨b, 5, none⟩ = some (.int .u8 0) ∧ w.cell? ⟨b, 6, none⟩ = some (.string ⟨#[]⟩) ∧ w.cell? ⟨b, 7, none⟩ = some (.bool false) :=
  ⟨h 0 (by decide : 0 < 8), h 1 (by decide : 1 < 8), h 2 (by decide : 2 < 8), h 3 (by decide : 3 < 8), h 4 (by decide : 4 < 8), h 5 (by decide : 5 < 8), h 6 (by decide : 6 < 8), h 7 (by decide : 7 < 8)⟩
theorem check_yes (v : V) (W : World) (h : v.In W) (ht : Tabs W) (hc : v.check = true) : Calls Tryz.prog 16 #[v.agg] W fun e w' => e = .returned (.bool true) ∧ Below W.heap.size W w' := by
  have := check_any v W h ht.1
  rw [hc] at this
  exact this
/-- The list, the answer in its box, the names. -/
structure MX (w : World) (la : Option Addr) (ll lc : Nat) (L : Nat → V) (p : Nat) (u : V) (g : Nat) (W : World) : Prop where
  lx : LX w la ll lc L [(p, u)] W
  nms : ∀ i, i < 13 → W.cell? ⟨g, i, none⟩ = some (.string (nmS i))
theorem MX.below {w W W' : World} {la : Option Addr} {ll lc : Nat} {L : Nat → V} {p : Nat} {u : V} {g : Nat} (h : MX w la ll lc L p u g W) (hb : Below W.heap.size W W') : MX w la ll lc L p u g W' :=
  ⟨h.lx.below hb, fun i hi => by rw [hb.cell (World.block_lt_of_cell? _ _ (h.nms i hi)), h.nms i hi]⟩
theorem names_cells {w w' : World} {g cap : Nat} (hown : w'.ownsRow w.heap.size 9 1 (.slice (some ⟨g, 0, none⟩) 13 cap) 13 (srtL.map encStr)) : ∀ i, i < 13 → w'.cell? ⟨g, i, none⟩ = some (.string (nmS i)) := fun i hi => by
  have := hown.cells (g := g) rfl i _ (srt_get i hi)
  have e : (⟨g, 0, none⟩ : Addr).add i = ⟨g, i, none⟩ := by simpa using add_plain g 0 i
  rw [e] at this
  exact this

set_option maxRecDepth 100000 in
set_option maxHeartbeats 8000000 in
theorem will_any (name : ByteArray) (la : Option Addr) (ll lc : Nat) (L : Nat → V) (w : World) (hl : Vals w la ll lc L) (ht : Tabs w) :
    Calls Tryz.prog 4 #[.string name, .slice la ll lc] w fun x w' => x = .returned (.bool true) ∧ Below w.heap.size w w' := by
  have h0 : LX w la ll lc L [] w := ⟨Below.refl _ _, ht, hl, fun _ hp => by cases hp⟩
  have OK := Lib.hid h0
  have hlen := hl.hlc
  have C0 := Lib.hid (fun W (h : LX w la ll lc L [] W) => alive2_any W h.tabs)
  have ZL := Lib.hid (fun W (h : LX w la ll lc L [] W) => valuesVsz_any la ll lc L W h.vals)
  have CB := Lib.hid (fun W T => beyond1 W (lsz ll L) (lsz_range (Nat.le_trans hl.hlc.1 hl.hlc.2)) T)
  have CL := Lib.hid (fun W (h : LX w la ll lc L [] W) => oDo_any name la ll lc L W h.vals h.tabs)
  have CT := Lib.hid (fun W => oTakes_any name W)
  have CN := Lib.hid (fun W => names_any W)
  have CV := Lib.hid (fun (v : V) W (h : v.In W) (ht : Tabs W) => check_any v W h ht.1)
  have CS := Lib.hid (fun W => sameValue_nil W)
  have HLS := Lib.hid (listed_eq name)
  have FW := Lib.hid (fun (h : doB name ll L = true) => will_facts h)
  clear hl h0 ht
  generalize lsz ll L = z0 at ZL CB
  generalize beyB 1 (onez z0) = bz at CB
  obtain ⟨bo, hbo⟩ : ∃ b, doB name ll L = b := ⟨_, rfl⟩
  generalize doV name ll L = vo at CL FW
  rw [hbo] at CL FW
  clear hbo
  generalize takeB name = tb at CT HLS FW
  generalize takeL name = z1 at CT FW
  generalize takeM name = z2 at CT FW
  unfold maxLen at hlen
  obtain ⟨hlen1, hlen2⟩ := hlen
  have g0 : (0 : Int) ≤ (ll : Int) := by omega
  have g1 : (ll : Int) ≤ 9223372036854775807 := by omega
  simp only [nv, vz, V.agg, V.cells] at CS
  go_enter Tryz.func4, Tryz.ntmps4
  cases bz with
  | true =>
    go_wp2_with (first | (go_at_call 12; (with_reducible refine (C0.out _ OK.out).mono ?_); rintro x w1 ⟨rfl, hb1⟩; replace OK := Lib.hid (OK.out.below hb1); clear hb1) | (go_at_call 14; (with_reducible refine (ZL.out _ OK.out).mono ?_); rintro x w1 ⟨rfl, hb1⟩; replace OK := Lib.hid (OK.out.below hb1); clear hb1) | (go_at_call 13; (with_reducible refine (CB.out _ _).mono ?_); rintro x w1 ⟨rfl, rfl⟩; replace OK := Lib.hid (OK.out.alloc (.cells #[.int .i64 z0] 3))))
    go_ret
    exact ⟨rfl, OK.out.low⟩
  | false =>
    clear hlen1 hlen2
    go_upto_region 3 with (first | (go_at_call 12; (with_reducible refine (C0.out _ OK.out).mono ?_); rintro x w1 ⟨rfl, hb1⟩; replace OK := Lib.hid (OK.out.below hb1); clear hb1) | (go_at_call 14; (with_reducible refine (ZL.out _ OK.out).mono ?_); rintro x w1 ⟨rfl, hb1⟩; replace OK := Lib.hid (OK.out.below hb1); clear hb1) | (go_at_call 13; (with_reducible refine (CB.out _ _).mono ?_); rintro x w1 ⟨rfl, rfl⟩; replace OK := Lib.hid (OK.out.alloc (.cells #[.int .i64 z0] 3))))
    clear C0 ZL CB
    cases bo with
    | false =>
      clear FW
      go_upto_region 4 with (go_at_call 15; (with_reducible refine (CL.out _ OK.out).mono ?_); rintro q w1 ⟨u, rfl, hd⟩; obtain rfl := hd.no rfl; have HI := Lib.hid hd.inn; have HC := Lib.hid (show nv.check = true by decide +kernel); replace OK := Lib.hid (OK.out.below hd.low); clear hd; simp only [nv, vz, V.agg, V.cells])
      replace OK := Lib.hid (OK.out.push (T := 55) HI.out)
      have hfix : LX w la ll lc L [(w1.heap.size, nv)] (w1.alloc (.cells #[.int .u8 0, .int .i64 0, .string ⟨#[]⟩, .slice none 0 0, .slice none 0 0, .int .u8 0, .string ⟨#[]⟩, .bool false] 55)) := OK.out
      clear HI OK CL
      revert hfix
      generalize w1.alloc (.cells #[.int .u8 0, .int .i64 0, .string ⟨#[]⟩, .slice none 0 0, .slice none 0 0, .int .u8 0, .string ⟨#[]⟩, .bool false] 55) = W1
      generalize w1.heap.size = px
      intro hfix
      have OK := Lib.hid hfix
      clear hfix
      go_wp2_with (first
        | (go_at_call 5; (with_reducible refine (CT.out _).mono ?_); rintro q w1 ⟨rfl, hb1⟩; replace OK := Lib.hid (OK.out.below hb1); clear hb1)
        | (go_at_call 7; (with_reducible refine (CN.out _).mono ?_); rintro q w1 ⟨g, cap, rfl, hown, hb1⟩; replace OK := Lib.hid (MX.mk (OK.out.below hb1) (names_cells hown)); clear hb1 hown))
      clear CT CN
      go_loopw [10, 12] (fun ls i wr => ∃ k : Nat, k ≤ 13 ∧ i = .int .i64 k ∧ ls = .bool (lstTo name k) ∧ MX w la ll lc L px nv g wr) (fun _ i _ => 13 - (intOf i).toNat)
      case atStart => exact ⟨0, Nat.zero_le _, rfl, rfl, OK.out⟩
      case round =>
        clear OK
        obtain ⟨k, hk, rfl, rfl, ok⟩ := hrel
        have OK := Lib.hid ok
        clear ok
        by_cases hlt : k < 13
        · have m1 := OK.out.nms k hlt
          obtain ⟨nk, hnk⟩ : ∃ n, nmS k = n := ⟨_, rfl⟩
          obtain ⟨lk, hlk⟩ : ∃ n, lstTo name k = n := ⟨_, rfl⟩
          obtain ⟨q, hq⟩ : ∃ q, (nk.toList == name.toList) = q := ⟨_, rfl⟩
          have HNX : Hid (lstTo name (k + 1) = (lk || q)) := by rw [Hid, lstTo, hlk, hnk, hq]
          rw [hnk] at m1
          rw [hlk]
          have k13 : (k : Int) < 13 := by omega
          have k0 : (0 : Int) ≤ (k : Int) := by omega
          have hre : ∀ j, k = j + 1 → Op.bytesLess (nmS j).toList nk.toList = true := fun j hj => by rw [← hnk, hj]; exact names_rise j (by omega)
          have HRE := Lib.hid hre
          clear hre hnk hlk
          rcases k with _ | j
          · cases lk <;> cases q
            all_goals
              go_upto_region 11 with fail
              go_quiet (fail)
              replace OK := Lib.hid (OK.out.below (below_drawn _ nq))
              go_wp2_with fail
              refine ⟨⟨0 + 1, by omega, by go_num, by rw [HNX.out]; rfl, OK.out⟩, by simp [intOf]⟩
          · have m2 := OK.out.nms j (by omega)
            obtain ⟨nj, hnj⟩ : ∃ n, nmS j = n := ⟨_, rfl⟩
            have hle := HRE.out j rfl
            rw [hnj] at m2 hle
            have hj0 : (0 : Int) < ((j + 1 : Nat) : Int) := by omega
            have hj1 : IntKind.i64.wrap (((j + 1 : Nat) : Int) - 1) = (j : Int) := by rw [IntWalk.i64_in _ (by omega)]; omega
            clear hnj HRE
            cases lk <;> cases q
            all_goals
              go_upto_region 11 with fail
              go_quiet (fail)
              replace OK := Lib.hid (OK.out.below (below_drawn _ nq))
              go_wp2_with fail
              refine ⟨⟨j + 1 + 1, by omega, by go_num, by rw [HNX.out]; rfl, OK.out⟩, by simp [intOf]; omega⟩
        · obtain rfl : k = 13 := by omega
          have h13 := HLS.out
          generalize lstTo name 13 = lb at h13 ⊢
          subst h13
          clear hlt hk HLS
          cases lb
          all_goals
            go_wp2_with fail
            go_loopw [13] (fun i wr => ∃ k : Nat, k ≤ ll ∧ i = .int .i64 k ∧ MX w la ll lc L px nv g wr) (fun i _ => ll - (intOf i).toNat)
            case atStart => exact ⟨0, Nat.zero_le _, rfl, OK.out⟩
            case round =>
              clear OK
              obtain ⟨k, hk, rfl, ok⟩ := hrel
              have OK := Lib.hid ok
              clear ok
              by_cases hlt : k < ll
              · have hlt' : (k : Int) < (ll : Int) := by omega
                go_wp2_with fail
                refine ⟨⟨k + 1, hlt, by go_num, OK.out⟩, by simp [intOf]; omega⟩
              · obtain rfl : k = ll := by omega
                have CK : Hid (∀ W, MX w la k lc L px nv g W → Calls Tryz.prog 16 #[.agg #[.int .u8 0, .int .i64 0, .string ⟨#[]⟩, .slice none 0 0, .slice none 0 0, .int .u8 0, .string ⟨#[]⟩, .bool false]] W fun e w' => e = .returned (.bool true) ∧ Below W.heap.size W w') := fun W h => check_yes nv W (h.lx.boxes _ (.head _)).2.2 h.lx.tabs HC.out
                obtain ⟨c0, c1, c2, c3, c4, c5, c6, c7⟩ := nv_at (OK.out.lx.boxes _ (.head _)).2.1
                go_wp2_with (first
                  | (go_at_call 16; (with_reducible refine (CK.out _ OK.out).mono ?_); rintro x w1 ⟨rfl, hb1⟩; replace OK := Lib.hid (OK.out.below hb1); clear hb1; clear c0 c1 c2 c3 c4 c5 c6 c7; obtain ⟨c0, c1, c2, c3, c4, c5, c6, c7⟩ := nv_at (OK.out.lx.boxes _ (.head _)).2.1)
                  | (go_at_call 17; (with_reducible refine (CS.out _).mono ?_); rintro x w1 ⟨rfl, hb1⟩; replace OK := Lib.hid (OK.out.below hb1); clear hb1))
                go_ret
                exact ⟨rfl, OK.out.lx.low⟩
    | true =>
      obtain ⟨rfl, hz1, hz2, hck, hvo⟩ := FW.out rfl
      have HCK := Lib.hid hck
      have HVO := Lib.hid hvo
      clear hck hvo FW
      go_upto_region 4 with (go_at_call 15; (with_reducible refine (CL.out _ OK.out).mono ?_); rintro q w1 ⟨u, rfl, hd⟩; have HI := Lib.hid hd.inn; have HC := Lib.hid (done_check hd (fun _ => HVO.out)); replace OK := Lib.hid (OK.out.below hd.low); clear hd; (have hin := HI.out); rcases u with _ | ⟨k', n', s', la', ll', lc', L', fa', fl', fc', fn', F', e', key', hk'⟩; (exact hin.elim); clear hin; simp only [V.agg, V.cells])
      replace OK := Lib.hid (OK.out.push (T := 55) HI.out)
      have hfix : LX w la ll lc L [(w1.heap.size, (.mk k' n' s' la' ll' lc' L' fa' fl' fc' fn' F' e' key' hk'))] (w1.alloc (.cells #[.int .u8 k', .int .i64 n', .string s', .slice la' ll' lc', .slice fa' fl' fc', .int .u8 e', .string key', .bool hk'] 55)) := OK.out
      clear HI OK CL
      revert hfix
      generalize w1.alloc (.cells #[.int .u8 k', .int .i64 n', .string s', .slice la' ll' lc', .slice fa' fl' fc', .int .u8 e', .string key', .bool hk'] 55) = W1
      generalize w1.heap.size = px
      intro hfix
      have OK := Lib.hid hfix
      clear hfix
      go_wp2_with (first
        | (go_at_call 5; (with_reducible refine (CT.out _).mono ?_); rintro q w1 ⟨rfl, hb1⟩; replace OK := Lib.hid (OK.out.below hb1); clear hb1)
        | (go_at_call 7; (with_reducible refine (CN.out _).mono ?_); rintro q w1 ⟨g, cap, rfl, hown, hb1⟩; replace OK := Lib.hid (MX.mk (OK.out.below hb1) (names_cells hown)); clear hb1 hown))
      clear CT CN
      go_loopw [10, 12] (fun ls i wr => ∃ k : Nat, k ≤ 13 ∧ i = .int .i64 k ∧ ls = .bool (lstTo name k) ∧ MX w la ll lc L px (.mk k' n' s' la' ll' lc' L' fa' fl' fc' fn' F' e' key' hk') g wr) (fun _ i _ => 13 - (intOf i).toNat)
      case atStart => exact ⟨0, Nat.zero_le _, rfl, rfl, OK.out⟩
      case round =>
        clear OK
        obtain ⟨k, hk, rfl, rfl, ok⟩ := hrel
        have OK := Lib.hid ok
        clear ok
        by_cases hlt : k < 13
        · have m1 := OK.out.nms k hlt
          obtain ⟨nk, hnk⟩ : ∃ n, nmS k = n := ⟨_, rfl⟩
          obtain ⟨lk, hlk⟩ : ∃ n, lstTo name k = n := ⟨_, rfl⟩
          obtain ⟨q, hq⟩ : ∃ q, (nk.toList == name.toList) = q := ⟨_, rfl⟩
          have HNX : Hid (lstTo name (k + 1) = (lk || q)) := by rw [Hid, lstTo, hlk, hnk, hq]
          rw [hnk] at m1
          rw [hlk]
          have k13 : (k : Int) < 13 := by omega
          have k0 : (0 : Int) ≤ (k : Int) := by omega
          have hre : ∀ j, k = j + 1 → Op.bytesLess (nmS j).toList nk.toList = true := fun j hj => by rw [← hnk, hj]; exact names_rise j (by omega)
          have HRE := Lib.hid hre
          clear hre hnk hlk
          rcases k with _ | j
          · cases lk <;> cases q
            all_goals
              go_upto_region 11 with fail
              go_quiet (fail)
              replace OK := Lib.hid (OK.out.below (below_drawn _ nq))
              go_wp2_with fail
              refine ⟨⟨0 + 1, by omega, by go_num, by rw [HNX.out]; rfl, OK.out⟩, by simp [intOf]⟩
          · have m2 := OK.out.nms j (by omega)
            obtain ⟨nj, hnj⟩ : ∃ n, nmS j = n := ⟨_, rfl⟩
            have hle := HRE.out j rfl
            rw [hnj] at m2 hle
            have hj0 : (0 : Int) < ((j + 1 : Nat) : Int) := by omega
            have hj1 : IntKind.i64.wrap (((j + 1 : Nat) : Int) - 1) = (j : Int) := by rw [IntWalk.i64_in _ (by omega)]; omega
            clear hnj HRE
            cases lk <;> cases q
            all_goals
              go_upto_region 11 with fail
              go_quiet (fail)
              replace OK := Lib.hid (OK.out.below (below_drawn _ nq))
              go_wp2_with fail
              refine ⟨⟨j + 1 + 1, by omega, by go_num, by rw [HNX.out]; rfl, OK.out⟩, by simp [intOf]; omega⟩
        · obtain rfl : k = 13 := by omega
          have h13 := HLS.out
          generalize lstTo name 13 = lb at h13 ⊢
          subst h13
          clear hlt hk HLS
          have hz1' : ¬ ((ll : Int) < z1) := by omega
          have hz2' : ¬ ((0 : Int) ≤ z2) ∨ ((0 : Int) ≤ z2 ∧ ¬ (z2 < (ll : Int))) := by omega
          clear hz1 hz2
          rcases hz2' with h2 | ⟨h2, h3⟩
          all_goals
            go_wp2_with fail
            go_loopw [13] (fun i wr => ∃ k : Nat, k ≤ ll ∧ i = .int .i64 k ∧ MX w la ll lc L px (.mk k' n' s' la' ll' lc' L' fa' fl' fc' fn' F' e' key' hk') g wr) (fun i _ => ll - (intOf i).toNat)
            case atStart => exact ⟨0, Nat.zero_le _, rfl, OK.out⟩
            case round =>
              clear OK
              obtain ⟨k, hk, rfl, ok⟩ := hrel
              have OK := Lib.hid ok
              clear ok
              by_cases hlt : k < ll
              · have hlt' : (k : Int) < (ll : Int) := by omega
                obtain ⟨⟨bl, ol, rfl, -⟩, -⟩ := OK.out.lx.vals.el k hlt
                have hat := vals_at OK.out.lx.vals hlt
                have hc := HCK.out k hlt
                have hin := Lib.hid (fun W (h : MX w (some ⟨bl, ol, none⟩) ll lc L px (.mk k' n' s' la' ll' lc' L' fa' fl' fc' fn' F' e' key' hk') g W) => (h.lx.vals.el k hlt).2)
                generalize L k = vk at hat hc hin
                have CK := Lib.hid (fun W (h : MX w (some ⟨bl, ol, none⟩) ll lc L px (.mk k' n' s' la' ll' lc' L' fa' fl' fc' fn' F' e' key' hk') g W) => check_yes vk W (hin.out W h) h.lx.tabs hc)
                have hk2 := hin.out _ OK.out
                rcases vk with _ | ⟨kv, nv', sv, lav, llv, lcv, Lv, fav, flv, fcv, fnv, Fv, ev, keyv, hkv⟩
                · exact hk2.elim
                clear hk2 hin hc
                simp only [V.agg, V.cells] at CK
                obtain ⟨c0, c1, c2, c3, c4, c5, c6, c7⟩ := at8o hat
                clear hat
                go_wp2_with (go_at_call 16; (with_reducible refine (CK.out _ OK.out).mono ?_); rintro x w1 ⟨rfl, hb1⟩; replace OK := Lib.hid (OK.out.below hb1); clear hb1; clear c0 c1 c2 c3 c4 c5 c6 c7)
                refine ⟨⟨k + 1, hlt, by go_num, OK.out⟩, by simp [intOf]; omega⟩
              · obtain rfl : k = ll := by omega
                have CK := Lib.hid (fun W (h : MX w la k lc L px (.mk k' n' s' la' ll' lc' L' fa' fl' fc' fn' F' e' key' hk') g W) => check_yes (.mk k' n' s' la' ll' lc' L' fa' fl' fc' fn' F' e' key' hk') W (h.lx.boxes _ (.head _)).2.2 h.lx.tabs HC.out)
                simp only [V.agg, V.cells] at CK
                obtain ⟨c0, c1, c2, c3, c4, c5, c6, c7⟩ := at8z (OK.out.lx.boxes _ (.head _)).2.1
                go_wp2_with (go_at_call 16; (with_reducible refine (CK.out _ OK.out).mono ?_); rintro x w1 ⟨rfl, hb1⟩; replace OK := Lib.hid (OK.out.below hb1); clear hb1)
                go_ret
                exact ⟨rfl, OK.out.lx.low⟩
end Go.Proofs.YtjbapldlgnlepaaGreatDoor
