/-
  Walks: stage 1's texts of values (value.Text) in a namespace of their own: Val Size Build SameP CheckP TellP Tell Quote List Rec Elem Told Str.
  Conditions: none.
-/
import Derived.Deep.Slices
import Derived.Below
import Derived.Test.YtdlmemalefhgmaaGreatDoorRows
import Derived.WalkKit
import Derived.WalkSpells
import Derived.WalkLawsBesides
import Derived.Lib.Hide
import Derived.Deep.QuietTactic
import Derived.BigQuiet
import Derived.Lib.Builder
import Derived.Lib.AppendStr
import Derived.Lib.UnsafeStr
import Derived.Lib.Walk
import Derived.Lib.Slices
import Derived.Laws.Externs
import Derived.RegionTactic
import Derived.ChangeAlike
import Derived.Lib.ItoaNum
import Derived.Test.YtdlmemalefhgmaaGreatDoorShelf
import Derived.StillTailTactics
import Derived.Lib.AppendIntMem
section
namespace Go.Proofs.YtdlmemalefhgmaaGreatDoor.VT
set_option linter.unusedVariables false
set_option linter.unusedSimpArgs false
open Go.ChangeShapes Go.WideShapes Go.RowKit Go.Deep

/-- A value with its two lists' addresses, lengths and capacities. The elements go by their index; what stands at an index that is not below the length counts for nothing ('leaf'). -/
inductive V where
  | leaf
  | mk (k n : Int) (s : ByteArray) (la : Option Addr) (ll lc : Nat) (L : Nat → V) (fa : Option Addr) (fl fc : Nat) (fn : Nat → ByteArray) (F : Nat → V) (e : Int) (key : ByteArray) (hk : Bool)

instance : Inhabited V := ⟨.leaf⟩

def V.cells : V → List Value
  | .leaf => []
  | .mk k n s la ll lc _ fa fl fc _ _ e key hk => [.int .u8 k, .int .i64 n, .string s, .slice la ll lc, .slice fa fl fc, .int .u8 e, .string key, .bool hk]

/-- The value as an aggregate in a register. -/
def V.agg (v : V) : Value := .agg v.cells.toArray

/-- Cells one behind the other. -/
def At (w : World) (b o : Nat) (cs : List Value) : Prop := ∀ i, i < cs.length → w.cell? ⟨b, o + i, none⟩ = cs[i]?

/-- THE VALUE's PARTS LIE IN 'w', its numbers and lengths are in range. -/
def V.In (w : World) : V → Prop
  | .leaf => False
  | .mk k n s la ll lc L fa fl fc fn F e key _ => (0 ≤ k ∧ k ≤ 255) ∧ (-9223372036854775808 ≤ n ∧ n ≤ 9223372036854775807) ∧ s.size ≤ maxLen ∧ (0 ≤ e ∧ e ≤ 255) ∧ key.size ≤ maxLen ∧ (ll ≤ lc ∧ lc ≤ maxLen) ∧ (fl ≤ fc ∧ fc ≤ maxLen) ∧
      (∀ i, i < ll → (∃ b o, la = some ⟨b, o, none⟩ ∧ At w b (o + i * 8) (L i).cells) ∧ (L i).In w) ∧
      (∀ i, i < fl → (∃ b o, fa = some ⟨b, o, none⟩ ∧ At w b (o + i * 9) (.string (fn i) :: (F i).cells)) ∧ (fn i).size ≤ maxLen ∧ (F i).In w)

theorem At.mono {w w' : World} {b o : Nat} {cs : List Value} (hh : ∀ a : Addr, a.block < w.heap.size → w'.cell? a = w.cell? a) (h : At w b o cs) : At w' b o cs := by
  intro i hi
  have h0 := h i hi
  rw [List.getElem?_eq_getElem hi] at h0 ⊢
  have hlt : b < w.heap.size := World.block_lt_of_cell? _ _ h0
  rw [hh _ hlt, h0]

theorem V.In.mono {w w' : World} (hh : ∀ a : Addr, a.block < w.heap.size → w'.cell? a = w.cell? a) : ∀ {v : V}, v.In w → v.In w' := by
  intro v
  induction v with
  | leaf => exact id
  | mk k n s la ll lc L fa fl fc fn F e key hk ihL ihF =>
    rintro ⟨h1, h2, h3, h4, h5, h6, h7, hL, hF⟩
    refine ⟨h1, h2, h3, h4, h5, h6, h7, fun i hi => ?_, fun i hi => ?_⟩
    · obtain ⟨⟨b, o, e1, ha⟩, hi'⟩ := hL i hi
      exact ⟨⟨b, o, e1, ha.mono hh⟩, ihL i hi'⟩
    · obtain ⟨⟨b, o, e1, ha⟩, hs, hi'⟩ := hF i hi
      exact ⟨⟨b, o, e1, ha.mono hh⟩, hs, ihF i hi'⟩

theorem V.In.below {w w' : World} (hb : Below w.heap.size w w') {v : V} (h : v.In w) : v.In w' := V.In.mono (fun _ ha => hb.cell ha) h

theorem V.In.drew {w : World} {v : V} (h : v.In w) : v.In w.drew := V.In.mono (w := w) (w' := w.drew) (fun _ _ => rfl) h

/-! ### Down: a reading opens -/
section
variable {H : Type} {enc : TypeId × Value → H} {P : Program} {w : World} {base : Nat} {held : Bool}

/-- What the type table says of the types of a value. 'tv': the struct under api.Value, and so on. -/
structure VTypes (P : Program) (tv tsl tsf tf : TypeId) where
  (tk tn ts te tb tfv tfn : TypeId)
  (f0 f1 f2 f3 f4 f5 f6 f7 g0 g1 : Field)
  hv : P.underlying tv = some (.struct #[f0, f1, f2, f3, f4, f5, f6, f7])
  cv : P.cellsOf tv = 8
  hsl : P.underlying tsl = some (.slice tv)
  hsf : P.underlying tsf = some (.slice tf)
  hf : P.underlying tf = some (.struct #[g0, g1])
  cf : P.cellsOf tf = 9
  t0 : P.underlying f0.type = some (.int .u8) ∧ P.cellsOf f0.type = 1 ∧ f0.offset = 0
  t1 : P.underlying f1.type = some (.int .i64) ∧ P.cellsOf f1.type = 1 ∧ f1.offset = 1
  t2 : P.underlying f2.type = some .string ∧ P.cellsOf f2.type = 1 ∧ f2.offset = 2
  t3 : f3.type = tsl ∧ P.cellsOf f3.type = 1 ∧ f3.offset = 3
  t4 : f4.type = tsf ∧ P.cellsOf f4.type = 1 ∧ f4.offset = 4
  t5 : P.underlying f5.type = some (.int .u8) ∧ P.cellsOf f5.type = 1 ∧ f5.offset = 5
  t6 : P.underlying f6.type = some .string ∧ P.cellsOf f6.type = 1 ∧ f6.offset = 6
  t7 : P.underlying f7.type = some .bool ∧ P.cellsOf f7.type = 1 ∧ f7.offset = 7
  s0 : P.underlying g0.type = some .string ∧ P.cellsOf g0.type = 1 ∧ g0.offset = 0
  s1 : g1.type = tv ∧ P.cellsOf g1.type = 8 ∧ g1.offset = 1

theorem wf_u8 {n : Int} (h : (Lit.int .u8 n).wf = true) : 0 ≤ n ∧ n ≤ 255 := by
  simp [Lit.wf, IntKind.min, IntKind.max, IntKind.signed, IntKind.bits] at h
  omega

theorem wf_i64 {n : Int} (h : (Lit.int .i64 n).wf = true) : -9223372036854775808 ≤ n ∧ n ≤ 9223372036854775807 := by
  simp [Lit.wf, IntKind.min, IntKind.max, IntKind.signed, IntKind.bits] at h
  omega

/-- Cells that are read together stand one behind the other. -/
theorem at_of_cells? {a : Addr} {n : Nat} {cs : List Value} (hn : 0 < n) (h : w.cells? base a n = some cs) : ∃ b o, a = ⟨b, o, none⟩ ∧ At w b o cs ∧ cs.length = n := by
  obtain ⟨_, hlen, hcell⟩ := World.cells?_some h
  obtain ⟨b, o, spot⟩ := a
  have h0 := hcell 0 hn
  rw [List.getElem?_eq_getElem (by omega)] at h0
  have hspot : spot = none := by simpa [Addr.add] using World.cell?_spot h0
  subst hspot
  refine ⟨b, o, rfl, fun i hi => ?_, hlen⟩
  have := hcell i (by omega)
  rwa [add_plain] at this

theorem open_V {tv tsl tsf tf : TypeId} (T : VTypes P tv tsl tsf tf) {spare : Nat → Bool} : ∀ (fuel : Nat) (cs : List Value) (x : DataW H × List MemPlace), DataW.trod enc P w base spare held fuel tv cs = some x →
    ∃ v : V, cs = v.cells ∧ v.In w := by
  intro fuel
  induction fuel using Nat.strongRecOn with
  | _ fuel ih =>
    intro cs x h
    obtain ⟨xs, m, rfl, rfl, hl, hlen, hf⟩ := DataW.trod_struct T.hv h
    rw [T.cv] at hl
    match xs, hlen, cs, hl with
    | [y0, y1, y2, y3, y4, y5, y6, y7], _, [v0, v1, v2, v3, v4, v5, v6, v7], _ =>
      have g0 := hf 0 T.f0 rfl
      have g1 := hf 1 T.f1 rfl
      have g2 := hf 2 T.f2 rfl
      have g3 := hf 3 T.f3 rfl
      have g4 := hf 4 T.f4 rfl
      have g5 := hf 5 T.f5 rfl
      have g6 := hf 6 T.f6 rfl
      have g7 := hf 7 T.f7 rfl
      rw [T.t0.2.2, T.t0.2.1] at g0
      rw [T.t1.2.2, T.t1.2.1] at g1
      rw [T.t2.2.2, T.t2.2.1] at g2
      rw [T.t3.2.2, T.t3.2.1, T.t3.1] at g3
      rw [T.t4.2.2, T.t4.2.1, T.t4.1] at g4
      rw [T.t5.2.2, T.t5.2.1] at g5
      rw [T.t6.2.2, T.t6.2.1] at g6
      rw [T.t7.2.2, T.t7.2.1] at g7
      simp at g0 g1 g2 g3 g4 g5 g6 g7
      obtain ⟨k, hv0, -, wk⟩ := DataW.trod_int T.t0.1 g0
      obtain ⟨n, hv1, -, wn⟩ := DataW.trod_int T.t1.1 g1
      obtain ⟨s, hv2, -, ws⟩ := DataW.trod_string T.t2.1 g2
      obtain ⟨e, hv5, -, we⟩ := DataW.trod_int T.t5.1 g5
      obtain ⟨key, hv6, -, wkey⟩ := DataW.trod_string T.t6.1 g6
      obtain ⟨hk, hv7, -⟩ := DataW.trod_bool T.t7.1 g7
      simp at hv0 hv1 hv2 hv5 hv6 hv7
      subst hv0 hv1 hv2 hv5 hv6 hv7
      -- the list of values
      have hL : ∃ la ll lc, v3 = Value.slice la ll lc ∧ (ll ≤ lc ∧ lc ≤ maxLen) ∧ ∃ L : Nat → V, ∀ i, i < ll → (∃ b o, la = some ⟨b, o, none⟩ ∧ At w b (o + i * 8) (L i).cells) ∧ (L i).In w := by
        rcases DataW.trod_slice T.hsl g3 with ⟨h0, -⟩ | ⟨a, len, cap, elems, rest, n', hn', hcs, -, hb, hlc, hm, hle, hel, -, -⟩
        · simp at h0
          exact ⟨none, 0, 0, h0, ⟨Nat.le_refl _, by decide⟩, fun _ => .leaf, fun i hi => absurd hi (Nat.not_lt_zero _)⟩
        · simp at hcs
          refine ⟨some a, len, cap, hcs, ⟨hlc, hm⟩, ?_⟩
          have ha0 : 0 < len → ∃ b o, a = ⟨b, o, none⟩ := fun h0 => by
            have h1 := hel 0 h0
            rw [List.getElem?_eq_getElem (by omega)] at h1
            obtain ⟨cs', hc1, -⟩ := Option.bind_eq_some_iff.1 h1
            obtain ⟨b, o, ha, -, -⟩ := at_of_cells? (by rw [T.cv]; decide) hc1
            exact ⟨b, o, by simpa [Addr.add] using ha⟩
          refine choose_lt (p := fun i (v : V) => (∃ b o, some a = some ⟨b, o, none⟩ ∧ At w b (o + i * 8) v.cells) ∧ v.In w) fun i hi => ?_
          have h1 := hel i hi
          rw [List.getElem?_eq_getElem (by omega)] at h1
          obtain ⟨cs', hc1, hc2⟩ := Option.bind_eq_some_iff.1 h1
          rw [T.cv] at hc1
          obtain ⟨v, rfl, hv⟩ := ih n' (by omega) cs' _ hc2
          obtain ⟨b, o, rfl⟩ := ha0 (by omega)
          rw [add_plain] at hc1
          obtain ⟨b', o', ha, hat, -⟩ := at_of_cells? (by decide) hc1
          simp only [Addr.mk.injEq, and_true] at ha
          obtain ⟨h1, h2⟩ := ha
          subst h1 h2
          exact ⟨v, ⟨b, o, rfl, hat⟩, hv⟩
      have hF : ∃ fa fl fc, v4 = Value.slice fa fl fc ∧ (fl ≤ fc ∧ fc ≤ maxLen) ∧ ∃ q : Nat → ByteArray × V, ∀ i, i < fl → (∃ b o, fa = some ⟨b, o, none⟩ ∧ At w b (o + i * 9) (.string (q i).1 :: (q i).2.cells)) ∧ (q i).1.size ≤ maxLen ∧ (q i).2.In w := by
        rcases DataW.trod_slice T.hsf g4 with ⟨h0, -⟩ | ⟨a, len, cap, elems, rest, n', hn', hcs, -, hb, hlc, hm, hle, hel, -, -⟩
        · simp at h0
          exact ⟨none, 0, 0, h0, ⟨Nat.le_refl _, by decide⟩, fun _ => (⟨#[]⟩, .leaf), fun i hi => absurd hi (Nat.not_lt_zero _)⟩
        · simp at hcs
          refine ⟨some a, len, cap, hcs, ⟨hlc, hm⟩, ?_⟩
          have ha0 : 0 < len → ∃ b o, a = ⟨b, o, none⟩ := fun h0 => by
            have h1 := hel 0 h0
            rw [List.getElem?_eq_getElem (by omega)] at h1
            obtain ⟨cs', hc1, -⟩ := Option.bind_eq_some_iff.1 h1
            obtain ⟨b, o, ha, -, -⟩ := at_of_cells? (by rw [T.cf]; decide) hc1
            exact ⟨b, o, by simpa [Addr.add] using ha⟩
          have : Inhabited (ByteArray × V) := ⟨(⟨#[]⟩, .leaf)⟩
          refine choose_lt (p := fun i (q : ByteArray × V) => (∃ b o, some a = some ⟨b, o, none⟩ ∧ At w b (o + i * 9) (.string q.1 :: q.2.cells)) ∧ q.1.size ≤ maxLen ∧ q.2.In w) fun i hi => ?_
          have h1 := hel i hi
          rw [List.getElem?_eq_getElem (by omega)] at h1
          obtain ⟨cs', hc1, hc2⟩ := Option.bind_eq_some_iff.1 h1
          rw [T.cf] at hc1
          obtain ⟨xs', m', rfl, -, hl', hlen', hf'⟩ := DataW.trod_struct T.hf hc2
          rw [T.cf] at hl'
          obtain ⟨b, o, rfl⟩ := ha0 (by omega)
          rw [add_plain] at hc1
          obtain ⟨b', o', ha, hat, -⟩ := at_of_cells? (by decide) hc1
          simp only [Addr.mk.injEq, and_true] at ha
          obtain ⟨h1, h2⟩ := ha
          subst h1 h2
          match xs', hlen', cs', hl' with
          | [z0, z1], _, c0 :: cr, hl'' =>
            have e0 := hf' 0 T.g0 rfl
            have e1 := hf' 1 T.g1 rfl
            rw [T.s0.2.2, T.s0.2.1] at e0
            rw [T.s1.2.2, T.s1.2.1, T.s1.1] at e1
            simp at e0 e1
            simp at hl''
            rw [List.take_of_length_le (by omega)] at e1
            obtain ⟨nm, hnm, -, wnm⟩ := DataW.trod_string T.s0.1 e0
            simp at hnm
            subst hnm
            obtain ⟨v, rfl, hv⟩ := ih m' (by omega) cr _ e1
            exact ⟨(nm, v), ⟨b, o, rfl, hat⟩, wnm, hv⟩
      obtain ⟨la, ll, lc, rfl, hlr, L, hL⟩ := hL
      obtain ⟨fa, fl, fc, rfl, hfr, q, hF⟩ := hF
      exact ⟨.mk k n s la ll lc L fa fl fc (fun i => (q i).1) (fun i => (q i).2) e key hk, rfl, wf_u8 wk, wf_i64 wn, ws, wf_u8 we, wkey, hlr, hfr, hL, hF⟩
end
end Go.Proofs.YtdlmemalefhgmaaGreatDoor.VT
end
section
namespace Go.Proofs.YtdlmemalefhgmaaGreatDoor.VT
set_option linter.unusedVariables false
set_option linter.unusedSimpArgs false
open Go.RowKit

theorem bcell {W w1 : World} (hb : Below W.heap.size W w1) : (∀ b o, b < W.heap.size → w1.cell? ⟨b, o, none⟩ = W.cell? ⟨b, o, none⟩) ∧ (∀ b o, b < W.heap.size → w1.frozen? ⟨b, o, none⟩ = W.frozen? ⟨b, o, none⟩) :=
  ⟨fun b o h => hb.cell (p := ⟨b, o, none⟩) h, fun b o h => hb.frozen (p := ⟨b, o, none⟩) h⟩

theorem bytes_ne {a b : ByteArray} (h : ¬ a = b) : (a.toList == b.toList) = false := by
  rw [beq_eq_false_iff_ne, ByteArray.toList_eq, ByteArray.toList_eq]
  exact fun e => h (WideShapes.bytes_inj e)
/-- Some int is returned; old memory is as it was. -/
def AnyI (w : World) (e : Ending) (w' : World) : Prop := (∃ n : Int, (-9223372036854775808 ≤ n ∧ n ≤ 9223372036854775807) ∧ e = .returned (.int .i64 n)) ∧ Below w.heap.size w w'

/-- What a size function's contract says of one value. -/
def SizeOk (v : V) : Prop := ∀ w : World, v.In w → Calls Tryz.prog 16 #[v.agg] w (AnyI w)

theorem ret_b {a b : Bool} (h : a = b) : Ending.returned (.bool a) = .returned (.bool b) := by rw [h]

theorem below_alloc (w : World) (O : Obj) : Below w.heap.size w (w.alloc O) := (Below.refl _ _).alloc (Nat.le_refl _) _

theorem wrap64_range (x : Int) : -9223372036854775808 ≤ wrap64 x ∧ wrap64 x ≤ 9223372036854775807 := by
  have := wrap64_wf x
  exact wf_i64 this

theorem anyI_ret {w w' : World} {x : Int} (h : Below w.heap.size w w') : AnyI w (.returned (.int .i64 (wrap64 x))) w' := ⟨⟨_, wrap64_range x, rfl⟩, h⟩

theorem at8 {w : World} {b o : Nat} {k n : Int} {s : ByteArray} {la : Option Addr} {ll lc : Nat} {L : Nat → V} {fa : Option Addr} {fl fc : Nat} {fn : Nat → ByteArray} {F : Nat → V} {e : Int} {key : ByteArray} {hk : Bool}
    (h : At w b o (V.mk k n s la ll lc L fa fl fc fn F e key hk).cells) :
    w.cell? ⟨b, o, none⟩ = some (.int .u8 k) ∧ w.cell? ⟨b, o + 1, none⟩ = some (.int .i64 n) ∧ w.cell? ⟨b, o + 2, none⟩ = some (.string s) ∧ w.cell? ⟨b, o + 3, none⟩ = some (.slice la ll lc) ∧ w.cell? ⟨b, o + 4, none⟩ = some (.slice fa fl fc) ∧
      w.cell? ⟨b, o + 5, none⟩ = some (.int .u8 e) ∧ w.cell? ⟨b, o + 6, none⟩ = some (.string key) ∧ w.cell? ⟨b, o + 7, none⟩ = some (.bool hk) :=
  ⟨h 0 (by simp [V.cells]), h 1 (by simp [V.cells]), h 2 (by simp [V.cells]), h 3 (by simp [V.cells]), h 4 (by simp [V.cells]), h 5 (by simp [V.cells]), h 6 (by simp [V.cells]), h 7 (by simp [V.cells])⟩

theorem at9 {w : World} {b o : Nat} {nm : ByteArray} {k n : Int} {s : ByteArray} {la : Option Addr} {ll lc : Nat} {L : Nat → V} {fa : Option Addr} {fl fc : Nat} {fn : Nat → ByteArray} {F : Nat → V} {e : Int} {key : ByteArray} {hk : Bool}
    (h : At w b o (.string nm :: (V.mk k n s la ll lc L fa fl fc fn F e key hk).cells)) :
    w.cell? ⟨b, o, none⟩ = some (.string nm) ∧ w.cell? ⟨b, o + 1, none⟩ = some (.int .u8 k) ∧ w.cell? ⟨b, o + 2, none⟩ = some (.int .i64 n) ∧ w.cell? ⟨b, o + 3, none⟩ = some (.string s) ∧ w.cell? ⟨b, o + 4, none⟩ = some (.slice la ll lc) ∧ w.cell? ⟨b, o + 5, none⟩ = some (.slice fa fl fc) ∧
      w.cell? ⟨b, o + 6, none⟩ = some (.int .u8 e) ∧ w.cell? ⟨b, o + 7, none⟩ = some (.string key) ∧ w.cell? ⟨b, o + 8, none⟩ = some (.bool hk) :=
  ⟨h 0 (by simp [V.cells]), h 1 (by simp [V.cells]), h 2 (by simp [V.cells]), h 3 (by simp [V.cells]), h 4 (by simp [V.cells]), h 5 (by simp [V.cells]), h 6 (by simp [V.cells]), h 7 (by simp [V.cells]), h 8 (by simp [V.cells])⟩

theorem At.below {w w' : World} {b o : Nat} {cs : List Value} (hb : Below w.heap.size w w') (h : At w b o cs) : At w' b o cs := At.mono (fun _ ha => hb.cell ha) h

set_option maxHeartbeats 400000 in
theorem fieldSize_any (nm : ByteArray) (v : V) (hv : SizeOk v) (w : World) (_hn : nm.size ≤ maxLen) (h : v.In w) :
    Calls Tryz.prog 60 #[.agg (Value.string nm :: v.cells).toArray] w (AnyI w) := by
  cases v with
  | leaf => exact h.elim
  | mk k n s la ll lc L fa fl fc fn F e key hk =>
  unfold maxLen at _hn
  have H := Lib.hid (fun O => hv (w.alloc O) (h.below (below_alloc w O)))
  clear hv h
  simp only [V.cells]
  go_enter Tryz.func60, Tryz.ntmps60
  go_wp2_with fail
  · refine (H.out _).mono ?_
    rintro e w1 ⟨⟨m, hm, rfl⟩, hb⟩
    go_wp2_with fail
    go_ret
    exact anyI_ret ((below_alloc _ _).trans (hb.mono (by simp)))
  · go_ret
    exact anyI_ret (below_alloc _ _)

set_option maxHeartbeats 400000 in
theorem valuesSize_any (la : Option Addr) (ll lc : Nat) (L : Nat → V) (hv : ∀ i, i < ll → SizeOk (L i)) (w : World) (hlc : ll ≤ lc ∧ lc ≤ maxLen)
    (h : ∀ i, i < ll → (∃ b o, la = some ⟨b, o, none⟩ ∧ At w b (o + i * 8) (L i).cells) ∧ (L i).In w) :
    Calls Tryz.prog 38 #[.slice la ll lc] w (AnyI w) := by
  unfold maxLen at hlc
  by_cases hz : ll = 0
  · subst hz
    clear hv h
    go_enter Tryz.func38, Tryz.ntmps38
    go_wp2_with fail
    go_loopw [3, 4] (fun n i wr => i = .int .i64 0 ∧ n = .int .i64 0 ∧ w = wr) (fun _ _ _ => 0)
    case atStart => exact ⟨rfl, rfl, rfl⟩
    case round =>
      obtain ⟨rfl, rfl, rfl⟩ := hrel
      go_wp2_with fail
      go_ret
      exact ⟨⟨0, by omega, rfl⟩, Below.refl _ _⟩
  · obtain ⟨⟨b, o, rfl, -⟩, -⟩ := h 0 (by omega)
    have H := Lib.hid h
    have H2 := Lib.hid hv
    clear h hv
    go_enter Tryz.func38, Tryz.ntmps38
    go_wp2_with fail
    go_loopw [3, 4] (fun n i wr => ∃ k : Nat, k ≤ ll ∧ i = .int .i64 k ∧ (∃ m : Int, (-9223372036854775808 ≤ m ∧ m ≤ 9223372036854775807) ∧ n = .int .i64 m) ∧ Below w.heap.size w wr) (fun _ i _ => ll - (intOf i).toNat)
    case atStart => exact ⟨0, Nat.zero_le _, rfl, ⟨_, by omega, rfl⟩, Below.refl _ _⟩
    case round =>
      obtain ⟨k, hk, rfl, ⟨m, hm, rfl⟩, hb⟩ := hrel
      by_cases hlt : k < ll
      · obtain ⟨⟨b', o', he, hat⟩, hin⟩ := H.out k hlt
        simp only [Option.some.injEq, Addr.mk.injEq, and_true] at he
        obtain ⟨rfl, rfl⟩ := he
        have hx := H2.out k hlt
        have hat := hat.below hb
        have hin := hin.below hb
        have HB := Lib.hid hb
        clear hb
        generalize L k = v at hx hat hin
        cases v with
        | leaf => exact hin.elim
        | mk k2 n2 s2 la2 ll2 lc2 L2 fa2 fl2 fc2 fn2 F2 e2 key2 hk2 =>
        obtain ⟨c0, c1, c2, c3, c4, c5, c6, c7⟩ := at8 hat
        have HX := Lib.hid (hx wr hin)
        clear hx hat hin
        go_wp2_with fail
        · refine HX.out.mono ?_
          rintro e w1 ⟨⟨m1, hm1, rfl⟩, hb1⟩
          have HB1 := Lib.hid (HB.out.trans (hb1.mono HB.out.size))
          clear hb1 c0 c1 c2 c3 c4 c5 c6 c7
          go_wp2_with fail
          go_roundw
          case rel => exact ⟨k + 1, by omega, by go_num, ⟨_, wrap64_range _, rfl⟩, HB1.out⟩
          case measure => simp [intOf]; omega
        · go_ret
          exact ⟨⟨m, hm, rfl⟩, HB.out⟩
      · have HB := Lib.hid hb
        clear hb
        go_wp2_with fail
        go_ret
        exact ⟨⟨m, hm, rfl⟩, HB.out⟩
set_option maxHeartbeats 400000 in
theorem fieldsSize_any (fa : Option Addr) (fl fc : Nat) (fn : Nat → ByteArray) (F : Nat → V) (hv : ∀ i, i < fl → SizeOk (F i)) (w : World) (hlc : fl ≤ fc ∧ fc ≤ maxLen)
    (h : ∀ i, i < fl → (∃ b o, fa = some ⟨b, o, none⟩ ∧ At w b (o + i * 9) (.string (fn i) :: (F i).cells)) ∧ (fn i).size ≤ maxLen ∧ (F i).In w) :
    Calls Tryz.prog 39 #[.slice fa fl fc] w (AnyI w) := by
  unfold maxLen at hlc
  by_cases hz : fl = 0
  · subst hz
    clear hv h
    go_enter Tryz.func39, Tryz.ntmps39
    go_wp2_with fail
    go_loopw [3, 4] (fun n i wr => i = .int .i64 0 ∧ n = .int .i64 0 ∧ w = wr) (fun _ _ _ => 0)
    case atStart => exact ⟨rfl, rfl, rfl⟩
    case round =>
      obtain ⟨rfl, rfl, rfl⟩ := hrel
      go_wp2_with fail
      go_ret
      exact ⟨⟨0, by omega, rfl⟩, Below.refl _ _⟩
  · obtain ⟨⟨b, o, rfl, -⟩, -⟩ := h 0 (by omega)
    have H := Lib.hid h
    have H2 := Lib.hid hv
    clear h hv
    go_enter Tryz.func39, Tryz.ntmps39
    go_wp2_with fail
    go_loopw [3, 4] (fun n i wr => ∃ k : Nat, k ≤ fl ∧ i = .int .i64 k ∧ (∃ m : Int, (-9223372036854775808 ≤ m ∧ m ≤ 9223372036854775807) ∧ n = .int .i64 m) ∧ Below w.heap.size w wr) (fun _ i _ => fl - (intOf i).toNat)
    case atStart => exact ⟨0, Nat.zero_le _, rfl, ⟨_, by omega, rfl⟩, Below.refl _ _⟩
    case round =>
      obtain ⟨k, hk, rfl, ⟨m, hm, rfl⟩, hb⟩ := hrel
      by_cases hlt : k < fl
      · obtain ⟨⟨b', o', he, hat⟩, hsz, hin⟩ := H.out k hlt
        simp only [Option.some.injEq, Addr.mk.injEq, and_true] at he
        obtain ⟨rfl, rfl⟩ := he
        have hx := H2.out k hlt
        have hat := hat.below hb
        have hin := hin.below hb
        have HB := Lib.hid hb
        clear hb
        generalize F k = v at hx hat hin
        generalize fn k = nm at hat hsz
        have HX := Lib.hid (fieldSize_any nm v hx wr hsz hin)
        cases v with
        | leaf => exact hin.elim
        | mk k2 n2 s2 la2 ll2 lc2 L2 fa2 fl2 fc2 fn2 F2 e2 key2 hk2 =>
        obtain ⟨c0, c1, c2, c3, c4, c5, c6, c7, c8⟩ := at9 hat
        clear hx hat hin hsz
        go_wp2_with fail
        · refine HX.out.mono ?_
          rintro e w1 ⟨⟨m1, hm1, rfl⟩, hb1⟩
          have HB1 := Lib.hid (HB.out.trans (hb1.mono HB.out.size))
          clear hb1 c0 c1 c2 c3 c4 c5 c6 c7 c8
          go_wp2_with fail
          go_roundw
          case rel => exact ⟨k + 1, by omega, by go_num, ⟨_, wrap64_range _, rfl⟩, HB1.out⟩
          case measure => simp [intOf]; omega
        · go_ret
          exact ⟨⟨m, hm, rfl⟩, HB.out⟩
      · have HB := Lib.hid hb
        clear hb
        go_wp2_with fail
        go_ret
        exact ⟨⟨m, hm, rfl⟩, HB.out⟩

set_option maxHeartbeats 400000 in
theorem valueSize_any : ∀ v : V, SizeOk v := by
  intro v
  induction v with
  | leaf => exact fun w h => h.elim
  | mk k n s la ll lc L fa fl fc fn F e key hk ihL ihF =>
  intro w h
  obtain ⟨hk1, hn1, hs1, he1, hkey1, hl1, hf1, hL, hF⟩ := h
  have HL := Lib.hid (fun W (hb : Below w.heap.size w W) => valuesSize_any la ll lc L (fun i _ => ihL i) W hl1 (fun i hi => ⟨let ⟨b, o, e1, ha⟩ := (hL i hi).1; ⟨b, o, e1, ha.below hb⟩, (hL i hi).2.below hb⟩))
  have HF := Lib.hid (fun W (hb : Below w.heap.size w W) => fieldsSize_any fa fl fc fn F (fun i _ => ihF i) W hf1 (fun i hi => ⟨let ⟨b, o, e1, ha⟩ := (hF i hi).1; ⟨b, o, e1, ha.below hb⟩, (hF i hi).2.1, (hF i hi).2.2.below hb⟩))
  unfold maxLen at hs1 hkey1
  clear hL hF ihL ihF hl1 hf1
  simp only [V.agg, V.cells]
  go_enter Tryz.func16, Tryz.ntmps16
  go_wp2_with fail
  · refine (HL.out _ (below_alloc _ _)).mono ?_
    rintro e w1 ⟨⟨m1, hm1, rfl⟩, hb1⟩
    obtain ⟨hc, hf⟩ := bcell hb1
    have HB1 := Lib.hid ((below_alloc _ _).trans (hb1.mono (by simp)))
    clear hb1
    go_wp2_with fail
    · refine (HF.out _ HB1.out).mono ?_
      rintro e w2 ⟨⟨m2, hm2, rfl⟩, hb2⟩
      have HB2 := Lib.hid (HB1.out.trans (hb2.mono HB1.out.size))
      clear hb2 hc hf
      go_wp2_with fail
      go_ret
      exact anyI_ret HB2.out
    · go_ret
      exact anyI_ret HB1.out
  · go_ret
    exact anyI_ret (below_alloc _ _)
end Go.Proofs.YtdlmemalefhgmaaGreatDoor.VT
end
section
namespace Go.Proofs.YtdlmemalefhgmaaGreatDoor.VT
set_option linter.unusedVariables false
set_option linter.unusedSimpArgs false
open Go.RowKit

/-- A TELLER IN BLOCK B, HOLDING THE BYTES bs: its buffer is nil or a row that it owns, in a block from B + 3 on. 'p': what the builder's 'addr' holds. -/
def BAt (B : Nat) (p : Value) (bs : List Value) (w : World) : Prop :=
  ∃ v, w.heap[B]? = some (.cells #[p, v] 88 (0, 0)) ∧ w.ownsRow (B + 3) 5 1 v bs.length bs

def IsB (B : Nat) (bs : List Value) (w : World) : Prop := BAt B (.pointer none) bs w ∨ BAt B (.pointer (some ⟨B, 0, none⟩)) bs w

/-- WHAT A WRITE LEAVES AS IT WAS: all blocks below B, and the blocks B + 1, B + 2. -/
def Fr (B : Nat) (w w' : World) : Prop := Below B w w' ∧ w'.heap[B + 1]? = w.heap[B + 1]? ∧ w'.heap[B + 2]? = w.heap[B + 2]?

theorem Fr.refl (B : Nat) (w : World) : Fr B w w := ⟨Below.refl _ _, rfl, rfl⟩
theorem Fr.trans {B : Nat} {a b c : World} (h : Fr B a b) (k : Fr B b c) : Fr B a c := ⟨h.1.trans k.1, k.2.1.trans h.2.1, k.2.2.trans h.2.2⟩

theorem BAt.lt {B : Nat} {p : Value} {bs : List Value} {w : World} (h : BAt B p bs w) : B < w.heap.size := by
  obtain ⟨v, hb, -⟩ := h
  rcases Nat.lt_or_ge B w.heap.size with h' | h'
  · exact h'
  · simp [Array.getElem?_eq_none h'] at hb

theorem BAt.cell0 {B : Nat} {p : Value} {bs : List Value} {w : World} (h : BAt B p bs w) : w.cell? ⟨B, 0, none⟩ = some p := by
  obtain ⟨v, hb, -⟩ := h
  rw [Lib.cell_of_heap hb]; rfl

theorem BAt.frozen0 {B : Nat} {p : Value} {bs : List Value} {w : World} (h : BAt B p bs w) : w.frozen? ⟨B, 0, none⟩ = false := by
  obtain ⟨v, hb, -⟩ := h
  exact Lib.frozen_of_heap hb 0

theorem BAt.shape {B : Nat} {p : Value} {bs : List Value} {w : World} (h : BAt B p bs w) : w.shape? B = some (88, 2) := by
  obtain ⟨v, hb, -⟩ := h
  simp [World.shape?, hb]

theorem ownsRow_set {B : Nat} {v : Value} {n : Nat} {xs : List Value} {w : World} {q : Nat} {u : Value} (h : w.ownsRow (B + 3) 5 1 v n xs) : (w.setCell ⟨B, q, none⟩ u).ownsRow (B + 3) 5 1 v n xs :=
  ownsRow_setCell_below h (by show B < B + 3; omega) u

theorem BAt.used {B : Nat} {p : Value} {bs : List Value} {w : World} (h : BAt B p bs w) (p' : Value) : BAt B p' bs (w.setCell ⟨B, 0, none⟩ p') := by
  obtain ⟨v, hb, ho⟩ := h
  refine ⟨v, ?_, ownsRow_set ho⟩
  simp [World.setCell, Array.getElem?_modify, hb]

theorem BAt.put {B : Nat} {p v v' : Value} {bs' : List Value} {w : World} (hb : w.heap[B]? = some (.cells #[p, v] 88 (0, 0))) (hown : w.ownsRow (B + 3) 5 1 v' bs'.length bs') :
    BAt B p bs' (w.setCell ⟨B, 1, none⟩ v') := by
  refine ⟨v', ?_, ownsRow_set hown⟩
  simp [World.setCell, Array.getElem?_modify, hb]

theorem Fr.set (B q : Nat) (u : Value) (w : World) : Fr B w (w.setCell ⟨B, q, none⟩ u) :=
  ⟨(Below.refl B w).setCell (p := ⟨B, q, none⟩) (Nat.le_refl _) u, Below.heap_setCell _ _ _ _ (by show B + 1 ≠ B; omega), Below.heap_setCell _ _ _ _ (by show B + 2 ≠ B; omega)⟩

theorem size_builder : (Tryz.prog.info? 86).map (·.size) = some 2 := by kernel_rfl
theorem lies_builder : liesAt Tryz.prog Tryz.prog.depth 88 (2 / Tryz.prog.cellsOf 88) 0 86 1 = true := by kernel_rfl
theorem info_byte : (Tryz.prog.info? 5).map (fun i => (i.zero, i.size, i.bytes)) = some (some (.int .u8 0), 1, 1) := by kernel_rfl
theorem cells_byte : Tryz.prog.cellsOf 5 = 1 := by kernel_rfl

set_option maxRecDepth 100000 in
set_option maxHeartbeats 1000000 in
theorem copyCheck_used (b : Nat) (w : World) (h0 : w.cell? ⟨b, 0, none⟩ = some (.pointer (some ⟨b, 0, none⟩))) :
    Calls Tryz.prog 56 #[.pointer (some ⟨b, 0, none⟩)] w fun e w' => e = .returned (.tuple #[]) ∧ w = w' := by
  obtain ⟨j, hj, _⟩ := Option.map_eq_some_iff.1 size_builder
  go_enter Tryz.func56, Tryz.ntmps56
  go_wp2
  rw [Lib.run_neq_ptr_same w _ Tryz.underlying83 hj]
  go_wp2
  go_end0
  exact ⟨rfl, rfl⟩

set_option maxRecDepth 100000 in
set_option maxHeartbeats 1000000 in
theorem copyCheck_fresh (b : Nat) (w : World) (h0 : w.cell? ⟨b, 0, none⟩ = some (.pointer none)) (hsh : w.shape? b = some (88, 2)) (hfz : w.frozen? ⟨b, 0, none⟩ = false) :
    Calls Tryz.prog 56 #[.pointer (some ⟨b, 0, none⟩)] w fun e w' => e = .returned (.tuple #[]) ∧ w.setCell ⟨b, 0, none⟩ (.pointer (some ⟨b, 0, none⟩)) = w' := by
  obtain ⟨j, hj, hjs⟩ := Option.map_eq_some_iff.1 size_builder
  go_enter Tryz.func56, Tryz.ntmps56
  go_wp2
  rw [Lib.run_to_unsafe w ⟨b, 0, none⟩ Tryz.underlying83 Tryz.underlying141 hj (by rw [hjs]; decide) hsh (Nat.zero_lt_succ 1)]
  simp only [Result.andThen]
  rw [Oper.upon_value]
  go_wp2
  rw [run_callFunc_extern Tryz.func80 (by kernel_rfl) (by kernel_rfl) (by kernel_rfl) (e := Extern.AbiNoEscape.same) (by kernel_rfl)]
  rw [Lib.run_noEscape]
  simp only [Result.andThen]
  rw [Oper.upon_value]
  go_wp2
  rw [Lib.run_from_unsafe w ⟨b, 0, none⟩ Tryz.underlying141 Tryz.underlying83 hj hsh lies_builder]
  simp only [Result.andThen]
  rw [Oper.upon_value]
  go_wp2
  go_end0
  exact ⟨rfl, rfl⟩

theorem copyCheck_any (B : Nat) (bs : List Value) (w : World) (h : IsB B bs w) :
    Calls Tryz.prog 56 #[.pointer (some ⟨B, 0, none⟩)] w fun e w' => e = .returned (.tuple #[]) ∧ (BAt B (.pointer (some ⟨B, 0, none⟩)) bs w' ∧ Fr B w w') := by
  rcases h with h | h
  · refine (copyCheck_fresh B w h.cell0 h.shape h.frozen0).mono ?_
    rintro e w' ⟨rfl, rfl⟩
    exact ⟨rfl, h.used _, Fr.set _ _ _ _⟩
  · refine (copyCheck_used B w h.cell0).mono ?_
    rintro e w' ⟨rfl, rfl⟩
    exact ⟨rfl, h, Fr.refl _ _⟩

/-- What an append leaves, seen from the teller. -/
theorem Fr.grown {B : Nat} {w w' : World} {v : Value} {n : Nat} {xs : List Value} (hg : w.grownBy w' v.ownBlock) (ho : w.ownsRow (B + 3) 5 1 v n xs) (hB : B + 2 < w.heap.size) : Fr B w w' := by
  have hr : ∀ k, v.ownBlock = some k → B + 3 ≤ k := fun k hk => (ho.lt k hk).1
  refine ⟨(Below.refl B w).grown hg (by omega) (fun k hk => by have := hr k hk; omega), ?_⟩
  exact ⟨hg.block (B + 1) (by omega) (fun e => by have := hr _ e.symm; omega), hg.block (B + 2) hB (fun e => by have := hr _ e.symm; omega)⟩

set_option maxRecDepth 100000 in
set_option maxHeartbeats 2000000 in
theorem writeString_any (B : Nat) (bs : List Value) (s : ByteArray) (w : World) (h : IsB B bs w) (hlen : bs.length + s.size ≤ 140737488355328) (hBw : B + 2 < w.heap.size) :
    Calls Tryz.prog 29 #[.pointer (some ⟨B, 0, none⟩), .string s] w fun e w' => e = .returned (.tuple #[.int .i64 s.size, .nilIface]) ∧ (BAt B (.pointer (some ⟨B, 0, none⟩)) (bs ++ Lib.strCells s) w' ∧ Fr B w w') := by
  obtain ⟨i0, hi, hz0, hz1, hz2⟩ := info_parts info_byte
  go_enter Tryz.func29, Tryz.ntmps29
  go_wp2_with fail
  refine (copyCheck_any B bs _ h).mono ?_
  rintro e w1 ⟨rfl, h1, hf1⟩
  have hs1 := hf1.1.size
  obtain ⟨v, hbk, hown⟩ := h1
  have hlt := BAt.lt ⟨v, hbk, hown⟩
  have c0 : w1.cell? ⟨B, 0, none⟩ = some (.pointer (some ⟨B, 0, none⟩)) := by rw [Lib.cell_of_heap hbk]; rfl
  have c1 : w1.cell? ⟨B, 1, none⟩ = some v := by rw [Lib.cell_of_heap hbk]; rfl
  go_wp2_with (at_builtin; refine Lib.wpList_append_own_string _ rfl _ _ 84 9 rfl (B + 3) 5 i0 Tryz.underlying84 Tryz.underlying9 hi hz0 hz1 hz2 _ _ _ rfl hown s rfl ?c3 ?c4 ?c5 ?_)
  case c3 => unfold maxLen; omega
  case c4 => omega
  case c5 => omega
  intro v' w2 hown' hgrow _
  have hfr := Fr.grown hgrow hown (by omega)
  have hb2 : w2.heap[B]? = some (.cells #[.pointer (some ⟨B, 0, none⟩), v] 88 (0, 0)) := by
    rw [hgrow.block B hlt (fun e => by have := (hown.lt _ e.symm).1; omega)]
    exact hbk
  have d0 : w2.cell? ⟨B, 0, none⟩ = some (.pointer (some ⟨B, 0, none⟩)) := by rw [Lib.cell_of_heap hb2]; rfl
  have d1 : w2.cell? ⟨B, 1, none⟩ = some v := by rw [Lib.cell_of_heap hb2]; rfl
  have f1 : w2.frozen? ⟨B, 1, none⟩ = false := Lib.frozen_of_heap hb2 1
  obtain ⟨ao, n', cap, rfl⟩ : ∃ ao n' cap, v' = .slice ao n' cap := by
    rcases hown'.2 with ⟨hv, _⟩ | ⟨g, cap, cur, hv, _⟩
    · exact ⟨_, _, _, hv⟩
    · exact ⟨_, _, _, hv⟩
  go_wp2
  go_ret2
  refine ⟨rfl, ?_, ?_⟩
  · exact BAt.put hb2 (bs' := bs ++ Lib.strCells s) (by simpa [Lib.strCells_length] using hown')
  · exact (hf1.trans hfr).trans (Fr.set _ _ _ _)

/-- THE TELLER HOLDS THE BYTES l. -/
def IsT (B : Nat) (l : List UInt8) (w : World) : Prop := IsB B (Lib.byteCells l) w ∧ B + 2 < w.heap.size

theorem IsT.fr {B : Nat} {w w' : World} (h : B + 2 < w.heap.size) (hf : Fr B w w') : B + 2 < w'.heap.size := Nat.lt_of_lt_of_le h hf.1.size

/-- What a call that writes l' leaves. -/
def Wrote (B : Nat) (l l' : List UInt8) (w w' : World) : Prop := IsT B (l ++ l') w' ∧ Fr B w w'

theorem writeS_any (B : Nat) (l : List UInt8) (s : ByteArray) (w : World) (h : IsT B l w) (hlen : l.length + s.data.toList.length ≤ 140737488355328) :
    Calls Tryz.prog 29 #[.pointer (some ⟨B, 0, none⟩), .string s] w fun e w' => e = .returned (.tuple #[.int .i64 s.size, .nilIface]) ∧ Wrote B l s.data.toList w w' := by
  refine (writeString_any B (Lib.byteCells l) s w h.1 (by rw [Lib.byteCells_length]; simpa using hlen) h.2).mono ?_
  rintro e w' ⟨he, hb, hf⟩
  exact ⟨he, ⟨.inr (by simpa [Lib.strCells, Lib.byteCells] using hb), IsT.fr h.2 hf⟩, hf⟩

set_option maxRecDepth 100000 in
set_option maxHeartbeats 2000000 in
theorem writeByte_any (B : Nat) (bs : List Value) (c : Int) (w : World) (h : IsB B bs w) (hlen : bs.length + 1 ≤ 140737488355328) (hBw : B + 2 < w.heap.size) :
    Calls Tryz.prog 58 #[.pointer (some ⟨B, 0, none⟩), .int .u8 c] w fun e w' => e = .returned .nilIface ∧ (BAt B (.pointer (some ⟨B, 0, none⟩)) (bs ++ [.int .u8 c]) w' ∧ Fr B w w') := by
  obtain ⟨i0, hi, hz0, hz1, hz2⟩ := info_parts info_byte
  go_enter Tryz.func58, Tryz.ntmps58
  go_wp2_with fail
  refine (copyCheck_any B bs _ h).mono ?_
  rintro e w1 ⟨rfl, h1, hf1⟩
  have hs1 := hf1.1.size
  obtain ⟨v, hbk, hown⟩ := h1
  have hlt := BAt.lt ⟨v, hbk, hown⟩
  have c0 : w1.cell? ⟨B, 0, none⟩ = some (.pointer (some ⟨B, 0, none⟩)) := by rw [Lib.cell_of_heap hbk]; rfl
  have c1 : w1.cell? ⟨B, 1, none⟩ = some v := by rw [Lib.cell_of_heap hbk]; rfl
  go_wp2_with (at_builtin; refine wpList_append_own _ rfl _ _ 84 rfl (B + 3) 5 i0 (.int .u8 0) 1 1 Tryz.underlying84 hi hz0 hz1 hz2 rfl (by decide) _ _ _ rfl (hown.alloc _) ⟨w1.heap.size, 0, none⟩ 1 1 [.int .u8 c] rfl rfl ?c1 ?c2 ?c3 ?c4 ?c5 ?_)
  case c1 =>
    intro j u hj
    match j, hj with
    | 0, hj => simp at hj; subst hj; simp [Addr.add]
  case c2 => intro u hu; simp at hu; subst hu; rfl
  case c3 => unfold maxLen; omega
  case c4 => omega
  case c5 => simp; omega
  intro v' w2 hown' hgrow _
  have hfr := (show Fr B w1 (w1.alloc _) from ⟨(Below.refl _ _).alloc (by omega) _, Below.heap_alloc _ _ _ (by omega), Below.heap_alloc _ _ _ (by omega)⟩).trans (Fr.grown hgrow (hown.alloc _) (by simp; omega))
  have hb2 : w2.heap[B]? = some (.cells #[.pointer (some ⟨B, 0, none⟩), v] 88 (0, 0)) := by
    rw [hgrow.block B (by simp; omega) (fun e => by have := (hown.lt _ e.symm).1; omega), Below.heap_alloc _ _ _ hlt]
    exact hbk
  have d0 : w2.cell? ⟨B, 0, none⟩ = some (.pointer (some ⟨B, 0, none⟩)) := by rw [Lib.cell_of_heap hb2]; rfl
  have d1 : w2.cell? ⟨B, 1, none⟩ = some v := by rw [Lib.cell_of_heap hb2]; rfl
  have f1 : w2.frozen? ⟨B, 1, none⟩ = false := Lib.frozen_of_heap hb2 1
  obtain ⟨g, cap, rfl⟩ : ∃ g cap, v' = .slice (some ⟨g, 0, none⟩) (bs.length + 1) cap := by
    rcases hown'.2 with ⟨_, h0⟩ | ⟨g, cap, cur, hv, _⟩
    · omega
    · exact ⟨g, cap, hv⟩
  go_wp2
  go_ret
  refine ⟨rfl, ?_, ?_⟩
  · exact BAt.put hb2 (bs' := bs ++ [.int .u8 c]) (by simpa using hown')
  · exact (hf1.trans hfr).trans (Fr.set _ _ _ _)

theorem writeB_any (B : Nat) (l : List UInt8) (c : UInt8) (w : World) (h : IsT B l w) (hlen : l.length + 1 ≤ 140737488355328) :
    Calls Tryz.prog 58 #[.pointer (some ⟨B, 0, none⟩), .int .u8 c.toNat] w fun e w' => e = .returned .nilIface ∧ Wrote B l [c] w w' := by
  refine (writeByte_any B (Lib.byteCells l) c.toNat w h.1 (by rw [Lib.byteCells_length]; exact hlen) h.2).mono ?_
  rintro e w' ⟨he, hb, hf⟩
  exact ⟨he, ⟨.inr (by simpa [Lib.byteCells] using hb), IsT.fr h.2 hf⟩, hf⟩
end Go.Proofs.YtdlmemalefhgmaaGreatDoor.VT
end
section
namespace Go.Proofs.YtdlmemalefhgmaaGreatDoor.VT
set_option linter.unusedVariables false
set_option linter.unusedSimpArgs false

/-- Holds it at every index below n? -/
def allB (n : Nat) (p : Nat → Bool) : Bool := (List.range n).all p

theorem allB_true {n : Nat} {p : Nat → Bool} : allB n p = true ↔ ∀ i, i < n → p i = true := by simp [allB]

/-- It holds below k. -/
def HeldTo (k : Nat) (p : Nat → Bool) : Prop := ∀ i, i < k → p i = true

theorem HeldTo.zero {p : Nat → Bool} : HeldTo 0 p := fun _ h => absurd h (Nat.not_lt_zero _)
theorem HeldTo.succ {k : Nat} {p : Nat → Bool} (h : HeldTo k p) (hk : p k = true) : HeldTo (k + 1) p := fun i hi => by
  rcases Nat.lt_succ_iff_lt_or_eq.1 hi with h1 | rfl
  · exact h i h1
  · exact hk
theorem HeldTo.all {n : Nat} {p : Nat → Bool} (h : HeldTo n p) : allB n p = true := allB_true.2 h
theorem allB_false {n k : Nat} {p : Nat → Bool} (hk : k < n) (h : p k = false) : allB n p = false := by
  rw [Bool.eq_false_iff]
  intro h1
  rw [allB_true] at h1
  rw [h1 k hk] at h
  exact Bool.noConfusion h

/-- Are two the same, what lies within them aside? -/
def ownB (k n : Int) (s : ByteArray) (e : Int) (key : ByteArray) (hk : Bool) (k' n' : Int) (s' : ByteArray) (e' : Int) (key' : ByteArray) (hk' : Bool) : Bool :=
  decide (k = k') && (decide (n = n') && (decide (s = s') && (decide (e = e') && (decide (key = key') && decide (hk = hk')))))

/-- Are two the same? -/
def V.same : V → V → Bool
  | .mk k n s _ ll _ L _ fl _ fn F e key hk, .mk k' n' s' _ ll' _ L' _ fl' _ fn' F' e' key' hk' =>
    ownB k n s e key hk k' n' s' e' key' hk' && (decide (ll = ll') && (decide (fl = fl') && (allB ll (fun i => (L i).same (L' i)) && allB fl (fun i => decide (fn i = fn' i) && (F i).same (F' i)))))
  | _, _ => false

/-- Are two lists of fields? -/
def sameF (fl : Nat) (fn : Nat → ByteArray) (F : Nat → V) (fl' : Nat) (fn' : Nat → ByteArray) (F' : Nat → V) : Bool := decide (fl = fl') && allB fl (fun i => decide (fn i = fn' i) && (F i).same (F' i))

/-- Are two records the same, field by field? -/
def V.shallow : V → V → Bool
  | .mk k _ _ _ _ _ _ _ fl _ fn F _ _ _, .mk k' _ _ _ _ _ _ _ fl' _ fn' F' _ _ _ => decide (k = 5) && (decide (k' = 5) && sameF fl fn F fl' fn' F')
  | _, _ => false

end Go.Proofs.YtdlmemalefhgmaaGreatDoor.VT
end
section
namespace Go.Proofs.YtdlmemalefhgmaaGreatDoor.VT
set_option linter.unusedVariables false
set_option linter.unusedSimpArgs false
open Go.RowKit

/-- Is it the empty text? -/
def emptyB (s : ByteArray) : Bool := decide (s = ByteArray.empty)

/-- Have fields just these names? -/
def justB (fl : Nat) (fn : Nat → ByteArray) (m : Nat) (ns : Nat → ByteArray) : Bool := decide (fl = m) && allB m (fun i => decide (fn i = ns i))

def nsValue : Nat → ByteArray := fun _ => ⟨#[118, 97, 108, 117, 101]⟩
def nsElse : Nat → ByteArray := fun _ => ⟨#[101, 108, 115, 101]⟩
def nsGuard : Nat → ByteArray := fun i => if i = 0 then ⟨#[97, 103, 97, 105, 110]⟩ else ⟨#[101, 108, 115, 101]⟩
def nsNone : Nat → ByteArray := fun _ => ⟨#[]⟩

/-- Is it an element as its row says? -/
def isElemB (s : ByteArray) (fl : Nat) (fn : Nat → ByteArray) (e : Int) : Bool :=
  if e = 1 ∨ e = 2 ∨ e = 3 then !emptyB s
  else if e = 4 then emptyB s && justB fl fn 0 nsNone
  else if e = 5 then !emptyB s && justB fl fn 0 nsNone
  else if e = 6 then !emptyB s && justB fl fn 1 nsValue
  else if e = 7 then emptyB s && justB fl fn 2 nsGuard
  else if e = 8 then emptyB s && justB fl fn 1 nsElse
  else false

/-- Has it no fields but those of its kind's row, and those as they are said there? -/
def inRowB (k n : Int) (s : ByteArray) (ll fl : Nat) (fn : Nat → ByteArray) (e : Int) (key : ByteArray) (hk : Bool) : Bool :=
  decide (k < 8) && ((decide (k = 1 ∨ k = 2 ∨ k = 7) || decide (n = 0)) && ((decide (k = 3 ∨ k = 6 ∨ k = 7) || emptyB s) && ((decide (k = 4 ∨ k = 6) || decide (ll = 0)) && ((decide (k = 5 ∨ k = 6 ∨ k = 7) || decide (fl = 0)) &&
    ((decide (k = 6) || (decide (e = 0) && !hk)) && ((hk || emptyB key) && (if k = 2 then decide (n = 0) || decide (n = 1) else if k = 6 then isElemB s fl fn e else true)))))))

/-- Is no text of its own too long? -/
def inLimB (s key : ByteArray) : Bool := decide (s.size ≤ 4096) && decide (key.size ≤ 4096)

/-- a <= b, as Go holds texts against one another. -/
def bLe (a b : ByteArray) : Bool := Op.bytesLess a.toList b.toList || a.toList == b.toList

/-- The name ahead of the i-th one; none is the empty text. -/
def lastB (fn : Nat → ByteArray) : Nat → ByteArray
  | 0 => ⟨#[]⟩
  | i + 1 => fn i

/-- Have fields names that rise, none too long? -/
def risingB (fl : Nat) (fn : Nat → ByteArray) : Bool := allB fl (fun i => !(bLe (fn i) (lastB fn i)) && decide ((fn i).size ≤ 4096))

/-- n rounds, from 0 on. -/
def foldTo {α : Type} : Nat → (Nat → α → α) → α → α
  | 0, _, a => a
  | n + 1, f, a => f n (foldTo n f a)

/-- What the check's closure answers, and what it leaves of the count. -/
def V.may : V → Int → Int → Bool × Int
  | .leaf, _, left => (false, left)
  | .mk k n s _ ll _ L _ fl _ fn F e key hk, deep, left =>
    if left - 1 < 0 ∨ 64 < deep then (false, left - 1)
    else if (inRowB k n s ll fl fn e key hk && (inLimB s key && risingB fl fn)) = false then (false, left - 1)
    else foldTo fl (fun i a => if a.1 then (F i).may (deep + 1) a.2 else a) (foldTo ll (fun i a => if a.1 then (L i).may (deep + 1) a.2 else a) (true, left - 1))

def V.check (v : V) : Bool := (v.may 1 4096).1

/-- The rows of the kinds, cell by cell. -/
def rowsL : List Bool := [false, false, false, false, false, true, false, false, false, false, true, false, false, false, false, false, true, false, false, false, false, false, true, false, false, false, false, false, true, false, false, true, true, true, true, true, true, false, true, false]
end Go.Proofs.YtdlmemalefhgmaaGreatDoor.VT
end
section
namespace Go.Proofs.YtdlmemalefhgmaaGreatDoor.VT
set_option linter.unusedVariables false
set_option linter.unusedSimpArgs false

/-- A byte within quotes. -/
def escB (b : UInt8) : List UInt8 := if b = 34 then [92, b] else if b = 92 then [92, b] else if b = 10 then [92, 110] else [b]

/-- A text in quotes, its bytes as a list. -/
def quotedL (l : List UInt8) : List UInt8 := 34 :: (l.flatMap escB ++ [34])

/-- n things one behind the other, a blank between two. -/
def sepTo : Nat → (Nat → List UInt8) → List UInt8
  | 0, _ => []
  | n + 1, f => sepTo n f ++ ((if 0 < n then [32] else []) ++ f n)

def listL (n : Nat) (f : Nat → List UInt8) : List UInt8 := 91 :: (sepTo n f ++ [93])
def recL (n : Nat) (fn : Nat → ByteArray) (f : Nat → List UInt8) : List UInt8 := 123 :: (sepTo n (fun i => quotedL (fn i).data.toList ++ (32 :: f i)) ++ [125])

/-- The word of a kind of elements. -/
def wordL (e : Int) : List UInt8 :=
  if e = 1 then [104, 111, 115, 116] else if e = 2 then [99, 111, 109, 112] else if e = 3 then [109, 101, 109, 111] else if e = 4 then [102, 114, 97, 103] else if e = 5 then [112, 111, 114, 116, 97, 108]
  else if e = 6 then [103, 105, 118, 101] else if e = 7 then [103, 117, 97, 114, 100] else if e = 8 then [119, 97, 105, 116] else []

/-- The value's text. -/
def V.told : V → List UInt8
  | .leaf => []
  | .mk k n s _ ll _ L _ fl _ fn F e key hk =>
    if k = 0 then [110, 111, 110, 101]
    else if k = 1 then Lib.itoa n
    else if k = 2 then (if n = 1 then [121, 101, 115] else [110, 111])
    else if k = 3 then quotedL s.data.toList
    else if k = 4 then listL ll (fun i => (L i).told)
    else if k = 5 then recL fl fn (fun i => (F i).told)
    else if k = 6 then 60 :: (wordL e ++ (32 :: (quotedL s.data.toList ++ ((if hk then [32, 107, 101, 121, 32] ++ quotedL key.data.toList else []) ++ (32 :: (recL fl fn (fun i => (F i).told) ++ (32 :: (listL ll (fun i => (L i).told) ++ [62]))))))))
    else if k = 7 then [60, 100, 101, 101, 100, 32] ++ (Lib.itoa n ++ (32 :: (quotedL s.data.toList ++ (32 :: (recL fl fn (fun i => (F i).told) ++ [62])))))
    else []
end Go.Proofs.YtdlmemalefhgmaaGreatDoor.VT
end
section
namespace Go.Proofs.YtdlmemalefhgmaaGreatDoor.VT
set_option linter.unusedVariables false
set_option linter.unusedSimpArgs false
open Go.RowKit

theorem Wrote.trans {B : Nat} {l a b : List UInt8} {w w1 w2 : World} (h : Wrote B l a w w1) (k : Wrote B (l ++ a) b w1 w2) : Wrote B l (a ++ b) w w2 :=
  ⟨by rw [← List.append_assoc]; exact k.1, h.2.trans k.2⟩

theorem Wrote.nil {B : Nat} {l : List UInt8} {w : World} (h : IsT B l w) : Wrote B l [] w w := ⟨by rw [List.append_nil]; exact h, Fr.refl _ _⟩

theorem Fr.of_below {B : Nat} {w w' : World} (hb : Below w.heap.size w w') (h : B + 2 < w.heap.size) : Fr B w w' :=
  ⟨hb.mono (by omega), hb.block _ (by omega), hb.block _ h⟩

theorem BAt.below {B : Nat} {p : Value} {bs : List Value} {w w' : World} (h : BAt B p bs w) (hb : Below w.heap.size w w') : BAt B p bs w' := by
  have hlt := h.lt
  obtain ⟨v, hbk, ho⟩ := h
  refine ⟨v, by rw [hb.block B hlt]; exact hbk, ho.1, ?_⟩
  rcases ho.2 with h0 | ⟨g, cap, cur, hv, hbg, hg, r⟩
  · exact .inl h0
  · refine .inr ⟨g, cap, cur, hv, hbg, ?_, r⟩
    have hgl : g < w.heap.size := by
      rcases Nat.lt_or_ge g w.heap.size with h' | h'
      · exact h'
      · simp [Array.getElem?_eq_none h'] at hg
    rw [hb.block g hgl]
    exact hg

theorem IsT.below {B : Nat} {l : List UInt8} {w w' : World} (h : IsT B l w) (hb : Below w.heap.size w w') : IsT B l w' :=
  ⟨h.1.imp (·.below hb) (·.below hb), Nat.lt_of_lt_of_le h.2 hb.size⟩

set_option maxHeartbeats 400000 in
theorem truth_any (B : Nat) (l : List UInt8) (r : Bool) (w : World) (h : IsT B l w) (hlen : l.length + (if r then 3 else 2) ≤ 140737488355328) :
    Calls Tryz.prog 31 #[.pointer (some ⟨B, 0, none⟩), .bool r] w fun e w' => e = .returned (.tuple #[]) ∧ Wrote B l (if r then [121, 101, 115] else [110, 111]) w w' := by
  cases r
  · have HN := Lib.hid (writeS_any B l ⟨#[110, 111]⟩ w h hlen)
    clear h
    go_enter Tryz.func31, Tryz.ntmps31
    go_wp2_with fail
    refine HN.out.mono ?_
    rintro x w1 ⟨rfl, hw⟩
    have HW := Lib.hid hw
    clear hw
    go_wp2_with fail
    go_end0
    exact ⟨rfl, HW.out⟩
  · have HY := Lib.hid (writeS_any B l ⟨#[121, 101, 115]⟩ w h hlen)
    clear h
    go_enter Tryz.func31, Tryz.ntmps31
    go_wp2_with fail
    refine HY.out.mono ?_
    rintro x w1 ⟨rfl, hw⟩
    have HW := Lib.hid hw
    clear hw
    go_wp2_with fail
    go_end0
    exact ⟨rfl, HW.out⟩

set_option maxHeartbeats 400000 in
theorem between_any (B : Nat) (l : List UInt8) (i : Nat) (w : World) (h : IsT B l w) (hlen : l.length + 1 ≤ 140737488355328) :
    Calls Tryz.prog 59 #[.pointer (some ⟨B, 0, none⟩), .int .i64 i] w fun e w' => e = .returned (.tuple #[]) ∧ Wrote B l (if 0 < i then [32] else []) w w' := by
  have HY := Lib.hid (writeB_any B l 32 w h hlen)
  have H0 := Lib.hid (Wrote.nil h)
  clear h
  by_cases hi : 0 < i
  · have hi' : (0 : Int) < (i : Int) := by omega
    have R := Lib.hid (show (if 0 < i then [32] else []) = ([32] : List UInt8) by simp [hi])
    go_enter Tryz.func59, Tryz.ntmps59
    go_wp2_with fail
    refine HY.out.mono ?_
    rintro x w1 ⟨rfl, hw⟩
    have HW := Lib.hid hw
    clear hw
    go_wp2_with fail
    go_end0
    exact ⟨rfl, by first | exact HW.out | (rw [R.out]; exact HW.out)⟩
  · obtain rfl : i = 0 := by omega
    go_enter Tryz.func59, Tryz.ntmps59
    go_wp2_with fail
    go_end0
    exact ⟨rfl, H0.out⟩

set_option maxRecDepth 100000 in
set_option maxHeartbeats 400000 in
theorem number_any (B : Nat) (l : List UInt8) (n : Int) (hn : -9223372036854775808 ≤ n ∧ n ≤ 9223372036854775807) (w : World) (h : IsT B l w) (hlen : l.length + (Lib.itoa n).length ≤ 140737488355328) (htab : Lib.TabIs Tryz.prog w "internal/strconv.uint64pow10" .u64 Lib.pow10Tab) :
    Calls Tryz.prog 30 #[.pointer (some ⟨B, 0, none⟩), .int .i64 n] w fun e w' => e = .returned (.tuple #[]) ∧ Wrote B l (Lib.itoa n) w w' := by
  have HF := Lib.hid (Tryz.strconv_FormatInt_10 n hn.1 hn.2 w.drew htab)
  have HT := Lib.hid h
  have HS := Lib.hid (fun W (hW : Below w.heap.size w W) => writeS_any B l ⟨(Lib.itoa n).toArray⟩ W (h.below hW) (by simpa using hlen))
  clear h htab
  go_enter Tryz.func30, Tryz.ntmps30
  go_wp2_with fail
  go_region_with ((first | (go_at_call 57; refine HF.out.mono ?_; rintro x w1 ⟨rfl, kk, os, rfl⟩) | (go_at_call 29; refine (HS.out _ ?_).mono ?_; (exact Lib.below_grow _ _ (Nat.le_refl _) _ _); rintro x w2 ⟨rfl, hw2⟩)))
  have HW := Lib.hid hw2
  clear hw2
  go_wp2_with fail
  go_end0
  refine ⟨rfl, HW.out.1, ?_⟩
  exact (Fr.of_below (Lib.below_grow _ _ (Nat.le_refl _) _ _) HT.out.2).trans HW.out.2
end Go.Proofs.YtdlmemalefhgmaaGreatDoor.VT
end
section
namespace Go.Proofs.YtdlmemalefhgmaaGreatDoor.VT
set_option linter.unusedVariables false
set_option linter.unusedSimpArgs false
open Go.RowKit

def escTo (s : List UInt8) (j : Nat) : List UInt8 := (s.take j).flatMap escB

theorem escTo_succ {s : List UInt8} {j : Nat} (h : j < s.length) : escTo s (j + 1) = escTo s j ++ escB s[j] := by
  rw [escTo, escTo, List.take_succ_eq_append_getElem h, List.flatMap_append]
  simp

theorem escTo_len {s : List UInt8} (j : Nat) : (escTo s j).length ≤ (s.flatMap escB).length := by
  have h := congrArg (fun l => (List.flatMap escB l).length) (List.take_append_drop j s)
  simp only [List.flatMap_append, List.length_append] at h
  rw [escTo]
  omega

theorem ne_byte {c : UInt8} {k : Nat} (h : ¬ c = UInt8.ofNat k) : ((c.toNat : Int) == (k : Int)) = false := by
  rw [beq_eq_false_iff_ne]
  intro e
  apply h
  have : c.toNat = k := by omega
  rw [← this, UInt8.ofNat_toNat]

set_option maxRecDepth 100000 in
set_option maxHeartbeats 2000000 in
theorem quoted_any (B : Nat) (l : List UInt8) (s : ByteArray) (w : World) (hs : s.size ≤ maxLen) (h : IsT B l w) (hlen : l.length + (quotedL s.data.toList).length ≤ 140737488355328) :
    Calls Tryz.prog 32 #[.pointer (some ⟨B, 0, none⟩), .string s] w fun e w' => e = .returned (.tuple #[]) ∧ Wrote B l (quotedL s.data.toList) w w' := by
  have hq : (quotedL s.data.toList).length = (s.data.toList.flatMap escB).length + 2 := by simp [quotedL]
  have HB := Lib.hid (fun (l' : List UInt8) (c : UInt8) (W : World) (h : IsT B l' W) (hl : l'.length + 1 ≤ 140737488355328) => writeB_any B l' c W h hl)
  have HN := Lib.hid (fun (l' : List UInt8) (W : World) (h : IsT B l' W) (hl : l'.length + 2 ≤ 140737488355328) => writeS_any B l' ⟨#[92, 110]⟩ W h hl)
  have H0 := Lib.hid (writeB_any B l 34 w h (by omega))
  have HQ := Lib.hid hq
  have HL := Lib.hid hlen
  unfold maxLen at hs
  clear h hq hlen
  go_enter Tryz.func32, Tryz.ntmps32
  go_wp2_with fail
  refine H0.out.mono ?_
  rintro x w1 ⟨rfl, hw⟩
  have HW := Lib.hid hw
  clear hw
  go_wp2_with fail
  go_loopw [12] (fun i wr => ∃ j : Nat, j ≤ s.size ∧ i = .int .i64 j ∧ Wrote B l (34 :: escTo s.data.toList j) w wr) (fun i _ => s.size - (intOf i).toNat)
  case atStart => exact ⟨0, Nat.zero_le _, rfl, HW.out⟩
  case round =>
    obtain ⟨j, hj, rfl, hw⟩ := hrel
    have HR := Lib.hid hw
    clear hw
    by_cases hlt : j < s.size
    · have hjl : j < s.data.toList.length := by simpa using hlt
      have HE : Hid (escTo s.data.toList (j + 1) = escTo s.data.toList j ++ escB s[j]) := escTo_succ hjl
      have bnd : Hid (∀ k, k < (escB s[j]).length → (l ++ 34 :: escTo s.data.toList j).length + k + 1 ≤ 140737488355328) := by
        intro k hk
        have hle := escTo_len (s := s.data.toList) (j + 1)
        have e1 := congrArg List.length HE.out
        have e2 := HQ.out
        have e3 := HL.out
        simp only [List.length_append] at e1
        simp only [List.length_append, List.length_cons]
        omega
      by_cases c34 : s[j] = 34
      · have E : Hid (escB s[j] = [92, 34]) := by simp [Hid, escB, c34]
        have B1 := Lib.hid (bnd.out 0 (by rw [E.out]; simp))
        have B2 := Lib.hid (bnd.out 1 (by rw [E.out]; simp))
        clear bnd
        go_wp2_with fail
        refine (HB.out _ 92 _ HR.out.1 (by have := B1.out; omega)).mono ?_
        rintro x w2 ⟨rfl, hw2⟩
        have HW2 := Lib.hid (HR.out.trans hw2)
        clear hw2
        go_wp2_with fail
        refine (HB.out _ 34 _ HW2.out.1 (by have := B2.out; simp at this ⊢; omega)).mono ?_
        rintro x w3 ⟨rfl, hw3⟩
        have HW3 : Hid (Wrote B l (34 :: escTo s.data.toList (j + 1)) w w3) := by
          have h3 := HW2.out.trans hw3
          have e3 : ((34 :: escTo s.data.toList j) ++ [92]) ++ [34] = 34 :: escTo s.data.toList (j + 1) := by
            rw [HE.out, E.out]
            simp
          rw [e3] at h3
          exact h3
        clear hw3
        go_wp2_with fail
        go_roundw
        case rel => exact ⟨j + 1, by omega, by go_num, HW3.out⟩
        case measure => simp [intOf]; omega
      by_cases c92 : s[j] = 92
      · have n34 : ((s[j].toNat : Int) == 34) = false := ne_byte c34
        clear c34
        have E : Hid (escB s[j] = [92, 92]) := by simp [Hid, escB, c92]
        have B1 := Lib.hid (bnd.out 0 (by rw [E.out]; simp))
        have B2 := Lib.hid (bnd.out 1 (by rw [E.out]; simp))
        clear bnd
        go_wp2_with fail
        refine (HB.out _ 92 _ HR.out.1 (by have := B1.out; omega)).mono ?_
        rintro x w2 ⟨rfl, hw2⟩
        have HW2 := Lib.hid (HR.out.trans hw2)
        clear hw2
        go_wp2_with fail
        refine (HB.out _ 92 _ HW2.out.1 (by have := B2.out; simp at this ⊢; omega)).mono ?_
        rintro x w3 ⟨rfl, hw3⟩
        have HW3 : Hid (Wrote B l (34 :: escTo s.data.toList (j + 1)) w w3) := by
          have h3 := HW2.out.trans hw3
          have e3 : ((34 :: escTo s.data.toList j) ++ [92]) ++ [92] = 34 :: escTo s.data.toList (j + 1) := by
            rw [HE.out, E.out]
            simp
          rw [e3] at h3
          exact h3
        clear hw3
        go_wp2_with fail
        go_roundw
        case rel => exact ⟨j + 1, by omega, by go_num, HW3.out⟩
        case measure => simp [intOf]; omega
      by_cases c10 : s[j] = 10
      · have n34 : ((s[j].toNat : Int) == 34) = false := ne_byte c34
        have n92 : ((s[j].toNat : Int) == 92) = false := ne_byte c92
        clear c34 c92
        have E : Hid (escB s[j] = [92, 110]) := by simp [Hid, escB, c10]
        have B2 := Lib.hid (bnd.out 1 (by rw [E.out]; simp))
        clear bnd
        go_wp2_with fail
        refine (HN.out _ _ HR.out.1 (by have := B2.out; omega)).mono ?_
        rintro x w3 ⟨rfl, hw3⟩
        have HW3 : Hid (Wrote B l (34 :: escTo s.data.toList (j + 1)) w w3) := by
          have h3 := HR.out.trans hw3
          have e3 : (34 :: escTo s.data.toList j) ++ [92, 110] = 34 :: escTo s.data.toList (j + 1) := by
            rw [HE.out, E.out]
            simp
          rw [e3] at h3
          exact h3
        clear hw3
        go_wp2_with fail
        go_roundw
        case rel => exact ⟨j + 1, by omega, by go_num, HW3.out⟩
        case measure => simp [intOf]; omega
      · have n34 : ((s[j].toNat : Int) == 34) = false := ne_byte c34
        have n92 : ((s[j].toNat : Int) == 92) = false := ne_byte c92
        have n10 : ((s[j].toNat : Int) == 10) = false := ne_byte c10
        have E : Hid (escB s[j] = [s[j]]) := by simp [Hid, escB, c34, c92, c10]
        have B2 := Lib.hid (bnd.out 0 (by rw [E.out]; simp))
        clear bnd
        go_wp2_with fail
        refine (HB.out _ s[j] _ HR.out.1 (by have := B2.out; omega)).mono ?_
        rintro x w3 ⟨rfl, hw3⟩
        have HW3 : Hid (Wrote B l (34 :: escTo s.data.toList (j + 1)) w w3) := by
          have h3 := HR.out.trans hw3
          have e3 : (34 :: escTo s.data.toList j) ++ [s[j]] = 34 :: escTo s.data.toList (j + 1) := by
            rw [HE.out, E.out]
            simp
          rw [e3] at h3
          exact h3
        clear hw3
        go_wp2_with fail
        go_roundw
        case rel => exact ⟨j + 1, by omega, by go_num, HW3.out⟩
        case measure => simp [intOf]; omega
    · obtain rfl : s.size = j := by omega
      have HA : Hid (escTo s.data.toList s.size = s.data.toList.flatMap escB) := by
        have e : s.data.toList.length ≤ s.size := by simp
        show (s.data.toList.take s.size).flatMap escB = _
        rw [List.take_of_length_le e]
      have B3 : Hid ((l ++ 34 :: escTo s.data.toList s.size).length + 1 ≤ 140737488355328) := by
        have e2 := HQ.out
        have e3 := HL.out
        rw [HA.out]
        simp only [Hid, List.length_append, List.length_cons]
        omega
      go_wp2_with fail
      refine (HB.out _ 34 _ HR.out.1 B3.out).mono ?_
      rintro x w3 ⟨rfl, hw3⟩
      have HW3 : Hid (Wrote B l (quotedL s.data.toList) w w3) := by
        have h3 := HR.out.trans hw3
        have e3 : (34 :: escTo s.data.toList s.size) ++ [34] = quotedL s.data.toList := by
          rw [HA.out]
          rfl
        rw [e3] at h3
        exact h3
      clear hw3
      go_wp2_with fail
      go_end0
      exact ⟨rfl, HW3.out⟩
end Go.Proofs.YtdlmemalefhgmaaGreatDoor.VT
end
section
namespace Go.Proofs.YtdlmemalefhgmaaGreatDoor.VT
set_option linter.unusedVariables false
set_option linter.unusedSimpArgs false
open Go.RowKit

/-- The array of words, in memory. -/
def WordsAt (w : World) : Prop := ∀ e : Nat, e < 9 → w.cell? ⟨0, e, none⟩ = some (.string ⟨(wordL e).toArray⟩)

/-- The closure as a value. -/
def tellF (B : Nat) : Value := .func (Fn.func 28) #[] #[.pointer (some ⟨B + 1, 0, none⟩), .pointer (some ⟨B + 2, 0, none⟩)]

/-- WHAT STANDS AROUND: the value's world below B; the closure's two variables. -/
structure TE (B : Nat) (w0 w : World) : Prop where
  sz : w0.heap.size = B
  below : Below B w0 w
  t : w.heap[B + 1]? = some (.cells #[.pointer (some ⟨B, 0, none⟩)] 82 (0, 0))
  f : w.heap[B + 2]? = some (.cells #[tellF B] 89 (0, 0))

theorem TE.fr {B : Nat} {w0 w w' : World} (h : TE B w0 w) (hf : Fr B w w') : TE B w0 w' :=
  ⟨h.sz, h.below.trans hf.1, by rw [hf.2.1]; exact h.t, by rw [hf.2.2]; exact h.f⟩

/-- Each element is of a kind that has a word. -/
def V.good : V → Prop
  | .leaf => True
  | .mk k _ _ _ ll _ L _ fl _ _ F e _ _ => (k = 6 → 1 ≤ e ∧ e ≤ 8) ∧ (∀ i, i < ll → (L i).good) ∧ (∀ i, i < fl → (F i).good)

def TellOk (v : V) : Prop := ∀ (w0 w : World) (B b o : Nat) (l : List UInt8), v.In w0 → At w0 b o v.cells → WordsAt w0 → Lib.TabIs Tryz.prog w0 "internal/strconv.uint64pow10" .u64 Lib.pow10Tab → TE B w0 w → IsT B l w → l.length + v.told.length ≤ 140737488355328 → v.good →
  Calls Tryz.prog 28 #[.pointer (some ⟨b, o, none⟩), .pointer (some ⟨B + 1, 0, none⟩), .pointer (some ⟨B + 2, 0, none⟩)] w fun e w' => e = .returned (.tuple #[]) ∧ Wrote B l v.told w w'

theorem sepTo_mono (f : Nat → List UInt8) {j n : Nat} (h : j ≤ n) : (sepTo j f).length ≤ (sepTo n f).length := by
  induction n with
  | zero =>
    obtain rfl : j = 0 := by omega
    exact Nat.le_refl _
  | succ n ih =>
    rcases Nat.lt_or_ge n j with h1 | h1
    · obtain rfl : j = n + 1 := by omega
      exact Nat.le_refl _
    · have := ih h1
      simp only [sepTo, List.length_append]
      omega

set_option maxRecDepth 100000 in
set_option maxHeartbeats 2000000 in
theorem list_any (w0 : World) (B : Nat) (l : List UInt8) (la : Option Addr) (ll lc : Nat) (L : Nat → V) (hv : ∀ i, i < ll → TellOk (L i)) (w : World) (hlc : ll ≤ lc ∧ lc ≤ maxLen)
    (h : ∀ i, i < ll → (∃ b o, la = some ⟨b, o, none⟩ ∧ At w0 b (o + i * 8) (L i).cells) ∧ (L i).In w0) (hg : ∀ i, i < ll → (L i).good) (hwd : WordsAt w0) (htb : Lib.TabIs Tryz.prog w0 "internal/strconv.uint64pow10" .u64 Lib.pow10Tab)
    (he : TE B w0 w) (ht : IsT B l w) (hlen : l.length + (listL ll (fun i => (L i).told)).length ≤ 140737488355328) :
    Calls Tryz.prog 33 #[.pointer (some ⟨B, 0, none⟩), .slice la ll lc, tellF B] w fun e w' => e = .returned (.tuple #[]) ∧ Wrote B l (listL ll (fun i => (L i).told)) w w' := by
  have hq : (listL ll (fun i => (L i).told)).length = (sepTo ll (fun i => (L i).told)).length + 2 := by simp [listL]
  have H0 := Lib.hid (writeB_any B l 91 w ht (by omega))
  have HB := Lib.hid (fun (l' : List UInt8) (c : UInt8) (W : World) (h : IsT B l' W) (hl : l'.length + 1 ≤ 140737488355328) => writeB_any B l' c W h hl)
  have HW := Lib.hid (fun (l' : List UInt8) (i : Nat) (W : World) (h : IsT B l' W) (hl : l'.length + 1 ≤ 140737488355328) => between_any B l' i W h hl)
  have HQ := Lib.hid hq
  have HLn := Lib.hid hlen
  have HV := Lib.hid (fun i hi W l' b o (hat : At w0 b o (L i).cells) (hfr : Fr B w W) hT hl => hv i hi w0 W B b o l' (h i hi).2 hat hwd htb (he.fr hfr) hT hl (hg i hi))
  have H := Lib.hid h
  unfold maxLen at hlc
  have bnd : Hid (∀ j, j < ll → (sepTo j (fun i => (L i).told)).length + ((if 0 < j then [32] else [] : List UInt8).length + (L j).told.length) + l.length + 2 ≤ 140737488355328) := by
    intro j hj
    have h1 := sepTo_mono (fun i => (L i).told) (show j + 1 ≤ ll from hj)
    simp only [sepTo, List.length_append] at h1
    omega
  unfold tellF
  by_cases hz : ll = 0
  · subst hz
    clear hv h hg hwd htb he ht hq hlen
    go_enter Tryz.func33, Tryz.ntmps33
    go_wp2_with fail
    refine H0.out.mono ?_
    rintro x w1 ⟨rfl, hw⟩
    have HW1 := Lib.hid hw
    clear hw
    go_wp2_with fail
    go_loopw [13] (fun i wr => i = .int .i64 0 ∧ Wrote B l [91] w wr) (fun _ _ => 0)
    case atStart => exact ⟨rfl, HW1.out⟩
    case round =>
      obtain ⟨rfl, hw⟩ := hrel
      have HR := Lib.hid hw
      clear hw
      go_wp2_with fail
      refine (HB.out _ 93 _ HR.out.1 (by have := HLn.out; have := HQ.out; simp [sepTo] at this ⊢; omega)).mono ?_
      rintro x w3 ⟨rfl, hw3⟩
      have HW3 := Lib.hid (HR.out.trans hw3)
      clear hw3
      go_wp2_with fail
      go_end0
      exact ⟨rfl, HW3.out⟩
  · obtain ⟨⟨lb, lo, rfl, -⟩, -⟩ := h 0 (by omega)
    clear hv h hg hwd htb he ht hq hlen
    go_enter Tryz.func33, Tryz.ntmps33
    go_wp2_with fail
    refine H0.out.mono ?_
    rintro x w1 ⟨rfl, hw⟩
    have HW1 := Lib.hid hw
    clear hw
    go_wp2_with fail
    go_loopw [13] (fun i wr => ∃ j : Nat, j ≤ ll ∧ i = .int .i64 j ∧ Wrote B l (91 :: sepTo j (fun i => (L i).told)) w wr) (fun i _ => ll - (intOf i).toNat)
    case atStart => exact ⟨0, Nat.zero_le _, rfl, HW1.out⟩
    case round =>
      obtain ⟨j, hj, rfl, hw⟩ := hrel
      have HR := Lib.hid hw
      clear hw
      by_cases hlt : j < ll
      · obtain ⟨⟨b1, o1, hee, hat⟩, -⟩ := H.out j hlt
        simp only [Option.some.injEq, Addr.mk.injEq, and_true] at hee
        obtain ⟨rfl, rfl⟩ := hee
        have HX := Lib.hid (fun W l' hfr hT hl => HV.out j hlt W l' _ _ hat hfr hT hl)
        have B1 := Lib.hid (bnd.out j hlt)
        clear hat
        go_wp2_with fail
        refine (HW.out _ j _ HR.out.1 (by have := B1.out; simp at this ⊢; omega)).mono ?_
        rintro x w2 ⟨rfl, hw2⟩
        have HW2 := Lib.hid (HR.out.trans hw2)
        clear hw2
        go_wp2_with fail
        refine (HX.out _ _ HW2.out.2 HW2.out.1 (by have := B1.out; simp only [List.length_append, List.length_cons] at this ⊢; omega)).mono ?_
        rintro x w3 ⟨rfl, hw3⟩
        have HW3 : Hid (Wrote B l (91 :: sepTo (j + 1) (fun i => (L i).told)) w w3) := by
          have h3 := HW2.out.trans hw3
          have e3 : ((91 :: sepTo j (fun i => (L i).told)) ++ (if 0 < j then [32] else [])) ++ (L j).told = 91 :: sepTo (j + 1) (fun i => (L i).told) := by simp [sepTo]
          rw [e3] at h3
          exact h3
        clear hw3
        go_wp2_with fail
        go_roundw
        case rel => exact ⟨j + 1, by omega, by go_num, HW3.out⟩
        case measure => simp [intOf]; omega
      · obtain rfl : ll = j := by omega
        go_wp2_with fail
        refine (HB.out _ 93 _ HR.out.1 (by have := HLn.out; have := HQ.out; simp only [List.length_append, List.length_cons] at this ⊢; omega)).mono ?_
        rintro x w3 ⟨rfl, hw3⟩
        have HW3 := Lib.hid (HR.out.trans hw3)
        clear hw3
        go_wp2_with fail
        go_end0
        exact ⟨rfl, HW3.out⟩
end Go.Proofs.YtdlmemalefhgmaaGreatDoor.VT
end
section
namespace Go.Proofs.YtdlmemalefhgmaaGreatDoor.VT
set_option linter.unusedVariables false
set_option linter.unusedSimpArgs false
open Go.RowKit

def fieldL (fn : Nat → ByteArray) (F : Nat → V) (i : Nat) : List UInt8 := quotedL (fn i).data.toList ++ (32 :: (F i).told)

theorem At.tail1 {w : World} {b o : Nat} {x : Value} {cs : List Value} (h : At w b o (x :: cs)) : At w b (o + 1) cs := by
  intro i hi
  have := h (i + 1) (by simpa using hi)
  rw [show o + 1 + i = o + (i + 1) by omega, this]
  rfl

set_option maxRecDepth 100000 in
set_option maxHeartbeats 2000000 in
theorem record_any (w0 : World) (B : Nat) (l : List UInt8) (fa : Option Addr) (fl fc : Nat) (fn : Nat → ByteArray) (F : Nat → V) (hv : ∀ i, i < fl → TellOk (F i)) (w : World) (hlc : fl ≤ fc ∧ fc ≤ maxLen)
    (h : ∀ i, i < fl → (∃ b o, fa = some ⟨b, o, none⟩ ∧ At w0 b (o + i * 9) (.string (fn i) :: (F i).cells)) ∧ (fn i).size ≤ maxLen ∧ (F i).In w0) (hg : ∀ i, i < fl → (F i).good) (hwd : WordsAt w0) (htb : Lib.TabIs Tryz.prog w0 "internal/strconv.uint64pow10" .u64 Lib.pow10Tab)
    (he : TE B w0 w) (ht : IsT B l w) (hlen : l.length + (recL fl fn (fun i => (F i).told)).length ≤ 140737488355328) :
    Calls Tryz.prog 34 #[.pointer (some ⟨B, 0, none⟩), .slice fa fl fc, tellF B] w fun e w' => e = .returned (.tuple #[]) ∧ Wrote B l (recL fl fn (fun i => (F i).told)) w w' := by
  have hrl : recL fl fn (fun i => (F i).told) = 123 :: (sepTo fl (fieldL fn F) ++ [125]) := rfl
  rw [hrl] at hlen ⊢
  have hq : (123 :: (sepTo fl (fieldL fn F) ++ [125])).length = (sepTo fl (fieldL fn F)).length + 2 := by simp
  have H0 := Lib.hid (writeB_any B l 123 w ht (by omega))
  have HB := Lib.hid (fun (l' : List UInt8) (c : UInt8) (W : World) (h : IsT B l' W) (hl : l'.length + 1 ≤ 140737488355328) => writeB_any B l' c W h hl)
  have HW := Lib.hid (fun (l' : List UInt8) (i : Nat) (W : World) (h : IsT B l' W) (hl : l'.length + 1 ≤ 140737488355328) => between_any B l' i W h hl)
  have hlen2 := hlen
  rw [hq] at hlen2
  have HLn := Lib.hid hlen2
  have HV := Lib.hid (fun i hi W l' b o (hat : At w0 b o (F i).cells) (hfr : Fr B w W) hT hl => hv i hi w0 W B b o l' (h i hi).2.2 hat hwd htb (he.fr hfr) hT hl (hg i hi))
  have HNm := Lib.hid (fun i hi (l' : List UInt8) (W : World) (h' : IsT B l' W) hl => quoted_any B l' (fn i) W (h i hi).2.1 h' hl)
  have HC := Lib.hid (fun W (hfr : Fr B w W) b o v (hc : w0.cell? ⟨b, o, none⟩ = some v) => show W.cell? ⟨b, o, none⟩ = some v by
    have hbl : b < B := by rw [← he.sz]; exact World.block_lt_of_cell? _ _ hc
    rw [(he.fr hfr).below.cell (p := ⟨b, o, none⟩) hbl, hc])
  have H := Lib.hid h
  unfold maxLen at hlc
  have bnd : Hid (∀ j, j < fl → (sepTo j (fieldL fn F)).length + ((if 0 < j then [32] else [] : List UInt8).length + ((quotedL (fn j).data.toList).length + ((F j).told.length + 1))) + l.length + 2 ≤ 140737488355328) := by
    intro j hj
    have h1 := sepTo_mono (fieldL fn F) (show j + 1 ≤ fl from hj)
    have h2 : (fieldL fn F j).length = (quotedL (fn j).data.toList).length + ((F j).told.length + 1) := by simp [fieldL]
    simp only [sepTo, List.length_append] at h1
    omega
  unfold tellF
  by_cases hz : fl = 0
  · subst hz
    clear hv h hg hwd htb he ht hq hlen hlen2
    go_enter Tryz.func34, Tryz.ntmps34
    go_wp2_with fail
    refine H0.out.mono ?_
    rintro x w1 ⟨rfl, hw⟩
    have HW1 := Lib.hid hw
    clear hw
    go_wp2_with fail
    go_loopw [13] (fun i wr => i = .int .i64 0 ∧ Wrote B l [123] w wr) (fun _ _ => 0)
    case atStart => exact ⟨rfl, HW1.out⟩
    case round =>
      obtain ⟨rfl, hw⟩ := hrel
      have HR := Lib.hid hw
      clear hw
      go_wp2_with fail
      refine (HB.out _ 125 _ HR.out.1 (by have := HLn.out; simp [sepTo] at this ⊢; omega)).mono ?_
      rintro x w3 ⟨rfl, hw3⟩
      have HW3 := Lib.hid (HR.out.trans hw3)
      clear hw3
      go_wp2_with fail
      go_end0
      exact ⟨rfl, HW3.out⟩
  · obtain ⟨⟨fb, fo, rfl, -⟩, -⟩ := h 0 (by omega)
    clear hv h hg hwd htb he ht hq hlen hlen2
    go_enter Tryz.func34, Tryz.ntmps34
    go_wp2_with fail
    refine H0.out.mono ?_
    rintro x w1 ⟨rfl, hw⟩
    have HW1 := Lib.hid hw
    clear hw
    go_wp2_with fail
    go_loopw [13] (fun i wr => ∃ j : Nat, j ≤ fl ∧ i = .int .i64 j ∧ Wrote B l (123 :: sepTo j (fieldL fn F)) w wr) (fun i _ => fl - (intOf i).toNat)
    case atStart => exact ⟨0, Nat.zero_le _, rfl, HW1.out⟩
    case round =>
      obtain ⟨j, hj, rfl, hw⟩ := hrel
      have HR := Lib.hid hw
      clear hw
      by_cases hlt : j < fl
      · obtain ⟨⟨b1, o1, hee, hat⟩, -, -⟩ := H.out j hlt
        simp only [Option.some.injEq, Addr.mk.injEq, and_true] at hee
        obtain ⟨rfl, rfl⟩ := hee
        have HX := Lib.hid (fun W l' hfr hT hl => HV.out j hlt W l' _ _ hat.tail1 hfr hT hl)
        have HN2 := Lib.hid (fun l' W h' hl => HNm.out j hlt l' W h' hl)
        have hn0 : w0.cell? ⟨fb, fo + j * 9, none⟩ = some (.string (fn j)) := by simpa using hat 0 (by simp)
        have HN0 := Lib.hid hn0
        have B1 := Lib.hid (bnd.out j hlt)
        clear hat hn0
        go_wp2_with fail
        refine (HW.out _ j _ HR.out.1 (by have := B1.out; simp at this ⊢; omega)).mono ?_
        rintro x w2 ⟨rfl, hw2⟩
        have n0 := HC.out w2 (HR.out.trans hw2).2 _ _ _ HN0.out
        have HW2 := Lib.hid (HR.out.trans hw2)
        clear hw2
        go_wp2_with fail
        refine (HN2.out _ _ HW2.out.1 (by have := B1.out; simp only [List.length_append, List.length_cons] at this ⊢; omega)).mono ?_
        rintro x w4 ⟨rfl, hw4⟩
        have HW4 := Lib.hid (HW2.out.trans hw4)
        clear hw4 n0
        go_wp2_with fail
        refine (HB.out _ 32 _ HW4.out.1 (by have := B1.out; simp only [List.length_append, List.length_cons] at this ⊢; omega)).mono ?_
        rintro x w5 ⟨rfl, hw5⟩
        have HW5 := Lib.hid (HW4.out.trans hw5)
        clear hw5
        go_wp2_with fail
        refine (HX.out _ _ HW5.out.2 HW5.out.1 (by have := B1.out; simp only [List.length_append, List.length_cons, List.length_nil] at this ⊢; omega)).mono ?_
        rintro x w3 ⟨rfl, hw3⟩
        have HW3 : Hid (Wrote B l (123 :: sepTo (j + 1) (fieldL fn F)) w w3) := by
          have h3 := HW5.out.trans hw3
          have e3 : ((((123 :: sepTo j (fieldL fn F)) ++ (if 0 < j then [32] else [])) ++ quotedL (fn j).data.toList) ++ [32]) ++ (F j).told = 123 :: sepTo (j + 1) (fieldL fn F) := by simp [sepTo, fieldL]
          rw [e3] at h3
          exact h3
        clear hw3
        go_wp2_with fail
        go_roundw
        case rel => exact ⟨j + 1, by omega, by go_num, HW3.out⟩
        case measure => simp [intOf]; omega
      · obtain rfl : fl = j := by omega
        go_wp2_with fail
        refine (HB.out _ 125 _ HR.out.1 (by have := HLn.out; simp only [List.length_append, List.length_cons]; omega)).mono ?_
        rintro x w3 ⟨rfl, hw3⟩
        have HW3 := Lib.hid (HR.out.trans hw3)
        clear hw3
        go_wp2_with fail
        go_end0
        exact ⟨rfl, HW3.out⟩
end Go.Proofs.YtdlmemalefhgmaaGreatDoor.VT
end
section
namespace Go.Proofs.YtdlmemalefhgmaaGreatDoor.VT
set_option linter.unusedVariables false
set_option linter.unusedSimpArgs false
open Go.RowKit

theorem tab_fr {B : Nat} {w0 w w' : World} (he : TE B w0 w) (hf : Fr B w w') (h : Lib.TabIs Tryz.prog w0 "internal/strconv.uint64pow10" .u64 Lib.pow10Tab) : Lib.TabIs Tryz.prog w' "internal/strconv.uint64pow10" .u64 Lib.pow10Tab := by
  have hg : Tryz.prog.globalNamed "internal/strconv.uint64pow10" = some 2 := by kernel_rfl
  have hlt : 2 < w0.heap.size := by
    rcases Nat.lt_or_ge 2 w0.heap.size with h' | h'
    · exact h'
    · simp [Lib.TabIs, World.var?, hg, Array.getElem?_eq_none h'] at h
  exact var?_below (by rw [he.sz]; exact (he.fr hf).below) hg hlt h

set_option maxRecDepth 100000 in
set_option maxHeartbeats 2000000 in
theorem elem_false (w0 : World) (B b o : Nat) (l : List UInt8) (n : Int) (s : ByteArray) (la : Option Addr) (ll lc : Nat) (L : Nat → V) (fa : Option Addr) (fl fc : Nat) (fn : Nat → ByteArray) (F : Nat → V) (e : Nat) (key : ByteArray)
    (hvL : ∀ i, i < ll → TellOk (L i)) (hvF : ∀ i, i < fl → TellOk (F i)) (w : World) (h : (V.mk 6 n s la ll lc L fa fl fc fn F e key false).In w0) (hg : (V.mk 6 n s la ll lc L fa fl fc fn F e key false).good) (ha : At w0 b o (V.mk 6 n s la ll lc L fa fl fc fn F e key false).cells)
    (hwd : WordsAt w0) (htb : Lib.TabIs Tryz.prog w0 "internal/strconv.uint64pow10" .u64 Lib.pow10Tab) (he : TE B w0 w) (ht : IsT B l w) (hlen : l.length + (60 :: (wordL e ++ (32 :: (quotedL s.data.toList ++ (([]) ++ (32 :: (recL fl fn (fun i => (F i).told) ++ (32 :: (listL ll (fun i => (L i).told) ++ [62]))))))))).length ≤ 140737488355328) :
    Calls Tryz.prog 35 #[.pointer (some ⟨B, 0, none⟩), .pointer (some ⟨b, o, none⟩), tellF B] w fun x w' => x = .returned (.tuple #[]) ∧ Wrote B l (60 :: (wordL e ++ (32 :: (quotedL s.data.toList ++ (([]) ++ (32 :: (recL fl fn (fun i => (F i).told) ++ (32 :: (listL ll (fun i => (L i).told) ++ [62]))))))))) w w' := by
  have HB := Lib.hid (fun (l' : List UInt8) (c : UInt8) (W : World) (h : IsT B l' W) (hl : l'.length + 1 ≤ 140737488355328) => writeB_any B l' c W h hl)
  have HS := Lib.hid (fun (l' : List UInt8) (c : ByteArray) (W : World) (h : IsT B l' W) (hl : l'.length + c.data.toList.length ≤ 140737488355328) => writeS_any B l' c W h hl)
  have HQ := Lib.hid (fun (l' : List UInt8) (c : ByteArray) (hc : c.size ≤ maxLen) (W : World) (h : IsT B l' W) (hl : l'.length + (quotedL c.data.toList).length ≤ 140737488355328) => quoted_any B l' c W hc h hl)
  have HRec := Lib.hid (fun (l' : List UInt8) (W : World) (hfr : Fr B w W) (h' : IsT B l' W) hl => record_any w0 B l' fa fl fc fn F hvF W h.2.2.2.2.2.2.1 h.2.2.2.2.2.2.2.2 hg.2.2 hwd htb (he.fr hfr) h' hl)
  have HLst := Lib.hid (fun (l' : List UInt8) (W : World) (hfr : Fr B w W) (h' : IsT B l' W) hl => list_any w0 B l' la ll lc L hvL W h.2.2.2.2.2.1 h.2.2.2.2.2.2.2.1 hg.2.1 hwd htb (he.fr hfr) h' hl)
  have HA := Lib.hid (fun W (hfr : Fr B w W) => at8 (ha.below (by rw [he.sz]; exact (he.fr hfr).below)))
  have hss : Hid (s.size ≤ maxLen) := h.2.2.1
  have hks : Hid (key.size ≤ maxLen) := h.2.2.2.2.1
  have HLn := Lib.hid hlen
  unfold tellF at HRec HLst ⊢
  have he8 := hg.1 rfl
  have H0 := Lib.hid (writeB_any B l 60 w ht (by simp only [List.length_cons] at hlen; omega))
  have HWd := Lib.hid (fun W (hfr : Fr B w W) => show W.cell? ⟨0, e, none⟩ = some (.string ⟨(wordL e).toArray⟩) by
    have hc := hwd e (by omega)
    have hbl : 0 < B := by rw [← he.sz]; exact World.block_lt_of_cell? _ _ hc
    rw [(he.fr hfr).below.cell (p := ⟨0, e, none⟩) hbl, hc])
  have hi0 : (0 : Int) ≤ (e : Int) := by omega
  have hi9 : (e : Int) < 9 := by omega
  clear hvL hvF h hg ha hwd htb he ht hlen he8
  go_enter Tryz.func35, Tryz.ntmps35
  go_wp2_with fail
  refine H0.out.mono ?_
  rintro x w1 ⟨rfl, hw⟩
  have Hw1 := Lib.hid hw
  clear hw
  obtain ⟨-, c1, c2, c3, c4, c5, c6, c7⟩ := HA.out _ Hw1.out.2
  have cw := HWd.out _ Hw1.out.2
  go_wp2_with fail
  go_still_tail 9, (by kernel_rfl)
  go_wp2_with fail
  clear c1 c2 c3 c4 c5 c6 c7 cw
  have Hd : Hid (Wrote B l [60] w w1.drew) := ⟨Hw1.out.1.below (Below.refl _ _).drew, Hw1.out.2.trans ⟨(Below.refl _ _).drew, rfl, rfl⟩⟩
  refine (HS.out _ ⟨(wordL e).toArray⟩ _ Hd.out.1 (by have := HLn.out; simp only [List.length_append, List.length_cons, List.length_nil] at this ⊢; omega)).mono ?_
  rintro x w2 ⟨rfl, hw⟩
  have Hw2 := Lib.hid (Hd.out.trans hw)
  clear hw
  go_wp2_with fail
  refine (HB.out _ 32 _ Hw2.out.1 (by have := HLn.out; simp only [List.length_append, List.length_cons, List.length_nil] at this ⊢; omega)).mono ?_
  rintro x w3 ⟨rfl, hw⟩
  have Hw3 := Lib.hid (Hw2.out.trans hw)
  clear hw
  obtain ⟨-, c1, c2, c3, c4, c5, c6, c7⟩ := HA.out _ Hw3.out.2
  go_wp2_with fail
  clear c1 c2 c3 c4 c5 c6 c7
  refine (HQ.out _ s hss.out _ Hw3.out.1 (by have := HLn.out; simp only [List.length_append, List.length_cons, List.length_nil] at this ⊢; omega)).mono ?_
  rintro x w4 ⟨rfl, hw⟩
  have Hw4 := Lib.hid (Hw3.out.trans hw)
  clear hw
  obtain ⟨-, c1, c2, c3, c4, c5, c6, c7⟩ := HA.out _ Hw4.out.2
  go_wp2_with fail
  clear c1 c2 c3 c4 c5 c6 c7
  refine (HB.out _ 32 _ Hw4.out.1 (by have := HLn.out; simp only [List.length_append, List.length_cons, List.length_nil] at this ⊢; omega)).mono ?_
  rintro x w7 ⟨rfl, hw⟩
  have Hw7 := Lib.hid (Hw4.out.trans hw)
  clear hw
  obtain ⟨-, c1, c2, c3, c4, c5, c6, c7⟩ := HA.out _ Hw7.out.2
  go_wp2_with fail
  clear c1 c2 c3 c4 c5 c6 c7
  refine (HRec.out _ _ Hw7.out.2 Hw7.out.1 (by have := HLn.out; simp only [List.length_append, List.length_cons, List.length_nil] at this ⊢; omega)).mono ?_
  rintro x w8 ⟨rfl, hw⟩
  have Hw8 := Lib.hid (Hw7.out.trans hw)
  clear hw
  obtain ⟨-, c1, c2, c3, c4, c5, c6, c7⟩ := HA.out _ Hw8.out.2
  go_wp2_with fail
  clear c1 c2 c3 c4 c5 c6 c7
  refine (HB.out _ 32 _ Hw8.out.1 (by have := HLn.out; simp only [List.length_append, List.length_cons, List.length_nil] at this ⊢; omega)).mono ?_
  rintro x w9 ⟨rfl, hw⟩
  have Hw9 := Lib.hid (Hw8.out.trans hw)
  clear hw
  obtain ⟨-, c1, c2, c3, c4, c5, c6, c7⟩ := HA.out _ Hw9.out.2
  go_wp2_with fail
  clear c1 c2 c3 c4 c5 c6 c7
  refine (HLst.out _ _ Hw9.out.2 Hw9.out.1 (by have := HLn.out; simp only [List.length_append, List.length_cons, List.length_nil] at this ⊢; omega)).mono ?_
  rintro x w10 ⟨rfl, hw⟩
  have Hw10 := Lib.hid (Hw9.out.trans hw)
  clear hw
  obtain ⟨-, c1, c2, c3, c4, c5, c6, c7⟩ := HA.out _ Hw10.out.2
  go_wp2_with fail
  clear c1 c2 c3 c4 c5 c6 c7
  refine (HB.out _ 62 _ Hw10.out.1 (by have := HLn.out; simp only [List.length_append, List.length_cons, List.length_nil] at this ⊢; omega)).mono ?_
  rintro x w11 ⟨rfl, hw⟩
  have Hw11 := Lib.hid (Hw10.out.trans hw)
  clear hw
  go_wp2_with fail
  go_end0
  exact ⟨rfl, by simpa using Hw11.out⟩

set_option maxRecDepth 100000 in
set_option maxHeartbeats 2000000 in
theorem elem_true (w0 : World) (B b o : Nat) (l : List UInt8) (n : Int) (s : ByteArray) (la : Option Addr) (ll lc : Nat) (L : Nat → V) (fa : Option Addr) (fl fc : Nat) (fn : Nat → ByteArray) (F : Nat → V) (e : Nat) (key : ByteArray)
    (hvL : ∀ i, i < ll → TellOk (L i)) (hvF : ∀ i, i < fl → TellOk (F i)) (w : World) (h : (V.mk 6 n s la ll lc L fa fl fc fn F e key true).In w0) (hg : (V.mk 6 n s la ll lc L fa fl fc fn F e key true).good) (ha : At w0 b o (V.mk 6 n s la ll lc L fa fl fc fn F e key true).cells)
    (hwd : WordsAt w0) (htb : Lib.TabIs Tryz.prog w0 "internal/strconv.uint64pow10" .u64 Lib.pow10Tab) (he : TE B w0 w) (ht : IsT B l w) (hlen : l.length + (60 :: (wordL e ++ (32 :: (quotedL s.data.toList ++ (([32, 107, 101, 121, 32] ++ quotedL key.data.toList) ++ (32 :: (recL fl fn (fun i => (F i).told) ++ (32 :: (listL ll (fun i => (L i).told) ++ [62]))))))))).length ≤ 140737488355328) :
    Calls Tryz.prog 35 #[.pointer (some ⟨B, 0, none⟩), .pointer (some ⟨b, o, none⟩), tellF B] w fun x w' => x = .returned (.tuple #[]) ∧ Wrote B l (60 :: (wordL e ++ (32 :: (quotedL s.data.toList ++ (([32, 107, 101, 121, 32] ++ quotedL key.data.toList) ++ (32 :: (recL fl fn (fun i => (F i).told) ++ (32 :: (listL ll (fun i => (L i).told) ++ [62]))))))))) w w' := by
  have HB := Lib.hid (fun (l' : List UInt8) (c : UInt8) (W : World) (h : IsT B l' W) (hl : l'.length + 1 ≤ 140737488355328) => writeB_any B l' c W h hl)
  have HS := Lib.hid (fun (l' : List UInt8) (c : ByteArray) (W : World) (h : IsT B l' W) (hl : l'.length + c.data.toList.length ≤ 140737488355328) => writeS_any B l' c W h hl)
  have HQ := Lib.hid (fun (l' : List UInt8) (c : ByteArray) (hc : c.size ≤ maxLen) (W : World) (h : IsT B l' W) (hl : l'.length + (quotedL c.data.toList).length ≤ 140737488355328) => quoted_any B l' c W hc h hl)
  have HRec := Lib.hid (fun (l' : List UInt8) (W : World) (hfr : Fr B w W) (h' : IsT B l' W) hl => record_any w0 B l' fa fl fc fn F hvF W h.2.2.2.2.2.2.1 h.2.2.2.2.2.2.2.2 hg.2.2 hwd htb (he.fr hfr) h' hl)
  have HLst := Lib.hid (fun (l' : List UInt8) (W : World) (hfr : Fr B w W) (h' : IsT B l' W) hl => list_any w0 B l' la ll lc L hvL W h.2.2.2.2.2.1 h.2.2.2.2.2.2.2.1 hg.2.1 hwd htb (he.fr hfr) h' hl)
  have HA := Lib.hid (fun W (hfr : Fr B w W) => at8 (ha.below (by rw [he.sz]; exact (he.fr hfr).below)))
  have hss : Hid (s.size ≤ maxLen) := h.2.2.1
  have hks : Hid (key.size ≤ maxLen) := h.2.2.2.2.1
  have HLn := Lib.hid hlen
  unfold tellF at HRec HLst ⊢
  have he8 := hg.1 rfl
  have H0 := Lib.hid (writeB_any B l 60 w ht (by simp only [List.length_cons] at hlen; omega))
  have HWd := Lib.hid (fun W (hfr : Fr B w W) => show W.cell? ⟨0, e, none⟩ = some (.string ⟨(wordL e).toArray⟩) by
    have hc := hwd e (by omega)
    have hbl : 0 < B := by rw [← he.sz]; exact World.block_lt_of_cell? _ _ hc
    rw [(he.fr hfr).below.cell (p := ⟨0, e, none⟩) hbl, hc])
  have hi0 : (0 : Int) ≤ (e : Int) := by omega
  have hi9 : (e : Int) < 9 := by omega
  clear hvL hvF h hg ha hwd htb he ht hlen he8
  go_enter Tryz.func35, Tryz.ntmps35
  go_wp2_with fail
  refine H0.out.mono ?_
  rintro x w1 ⟨rfl, hw⟩
  have Hw1 := Lib.hid hw
  clear hw
  obtain ⟨-, c1, c2, c3, c4, c5, c6, c7⟩ := HA.out _ Hw1.out.2
  have cw := HWd.out _ Hw1.out.2
  go_wp2_with fail
  go_still_tail 9, (by kernel_rfl)
  go_wp2_with fail
  clear c1 c2 c3 c4 c5 c6 c7 cw
  have Hd : Hid (Wrote B l [60] w w1.drew) := ⟨Hw1.out.1.below (Below.refl _ _).drew, Hw1.out.2.trans ⟨(Below.refl _ _).drew, rfl, rfl⟩⟩
  refine (HS.out _ ⟨(wordL e).toArray⟩ _ Hd.out.1 (by have := HLn.out; simp only [List.length_append, List.length_cons, List.length_nil] at this ⊢; omega)).mono ?_
  rintro x w2 ⟨rfl, hw⟩
  have Hw2 := Lib.hid (Hd.out.trans hw)
  clear hw
  go_wp2_with fail
  refine (HB.out _ 32 _ Hw2.out.1 (by have := HLn.out; simp only [List.length_append, List.length_cons, List.length_nil] at this ⊢; omega)).mono ?_
  rintro x w3 ⟨rfl, hw⟩
  have Hw3 := Lib.hid (Hw2.out.trans hw)
  clear hw
  obtain ⟨-, c1, c2, c3, c4, c5, c6, c7⟩ := HA.out _ Hw3.out.2
  go_wp2_with fail
  clear c1 c2 c3 c4 c5 c6 c7
  refine (HQ.out _ s hss.out _ Hw3.out.1 (by have := HLn.out; simp only [List.length_append, List.length_cons, List.length_nil] at this ⊢; omega)).mono ?_
  rintro x w4 ⟨rfl, hw⟩
  have Hw4 := Lib.hid (Hw3.out.trans hw)
  clear hw
  obtain ⟨-, c1, c2, c3, c4, c5, c6, c7⟩ := HA.out _ Hw4.out.2
  go_wp2_with fail
  clear c1 c2 c3 c4 c5 c6 c7
  refine (HS.out _ ⟨#[32, 107, 101, 121, 32]⟩ _ Hw4.out.1 (by have := HLn.out; simp only [List.length_append, List.length_cons, List.length_nil] at this ⊢; omega)).mono ?_
  rintro x w5 ⟨rfl, hw⟩
  have Hw5 := Lib.hid (Hw4.out.trans hw)
  clear hw
  obtain ⟨-, c1, c2, c3, c4, c5, c6, c7⟩ := HA.out _ Hw5.out.2
  go_wp2_with fail
  clear c1 c2 c3 c4 c5 c6 c7
  refine (HQ.out _ key hks.out _ Hw5.out.1 (by have := HLn.out; simp only [List.length_append, List.length_cons, List.length_nil] at this ⊢; omega)).mono ?_
  rintro x w6 ⟨rfl, hw⟩
  have Hw6 := Lib.hid (Hw5.out.trans hw)
  clear hw
  obtain ⟨-, c1, c2, c3, c4, c5, c6, c7⟩ := HA.out _ Hw6.out.2
  go_wp2_with fail
  clear c1 c2 c3 c4 c5 c6 c7
  refine (HB.out _ 32 _ Hw6.out.1 (by have := HLn.out; simp only [List.length_append, List.length_cons, List.length_nil] at this ⊢; omega)).mono ?_
  rintro x w7 ⟨rfl, hw⟩
  have Hw7 := Lib.hid (Hw6.out.trans hw)
  clear hw
  obtain ⟨-, c1, c2, c3, c4, c5, c6, c7⟩ := HA.out _ Hw7.out.2
  go_wp2_with fail
  clear c1 c2 c3 c4 c5 c6 c7
  refine (HRec.out _ _ Hw7.out.2 Hw7.out.1 (by have := HLn.out; simp only [List.length_append, List.length_cons, List.length_nil] at this ⊢; omega)).mono ?_
  rintro x w8 ⟨rfl, hw⟩
  have Hw8 := Lib.hid (Hw7.out.trans hw)
  clear hw
  obtain ⟨-, c1, c2, c3, c4, c5, c6, c7⟩ := HA.out _ Hw8.out.2
  go_wp2_with fail
  clear c1 c2 c3 c4 c5 c6 c7
  refine (HB.out _ 32 _ Hw8.out.1 (by have := HLn.out; simp only [List.length_append, List.length_cons, List.length_nil] at this ⊢; omega)).mono ?_
  rintro x w9 ⟨rfl, hw⟩
  have Hw9 := Lib.hid (Hw8.out.trans hw)
  clear hw
  obtain ⟨-, c1, c2, c3, c4, c5, c6, c7⟩ := HA.out _ Hw9.out.2
  go_wp2_with fail
  clear c1 c2 c3 c4 c5 c6 c7
  refine (HLst.out _ _ Hw9.out.2 Hw9.out.1 (by have := HLn.out; simp only [List.length_append, List.length_cons, List.length_nil] at this ⊢; omega)).mono ?_
  rintro x w10 ⟨rfl, hw⟩
  have Hw10 := Lib.hid (Hw9.out.trans hw)
  clear hw
  obtain ⟨-, c1, c2, c3, c4, c5, c6, c7⟩ := HA.out _ Hw10.out.2
  go_wp2_with fail
  clear c1 c2 c3 c4 c5 c6 c7
  refine (HB.out _ 62 _ Hw10.out.1 (by have := HLn.out; simp only [List.length_append, List.length_cons, List.length_nil] at this ⊢; omega)).mono ?_
  rintro x w11 ⟨rfl, hw⟩
  have Hw11 := Lib.hid (Hw10.out.trans hw)
  clear hw
  go_wp2_with fail
  go_end0
  exact ⟨rfl, by simpa using Hw11.out⟩

set_option maxRecDepth 100000 in
set_option maxHeartbeats 2000000 in
theorem deed_any (w0 : World) (B b o : Nat) (l : List UInt8) (n : Int) (s : ByteArray) (la : Option Addr) (ll lc : Nat) (L : Nat → V) (fa : Option Addr) (fl fc : Nat) (fn : Nat → ByteArray) (F : Nat → V) (e : Int) (key : ByteArray) (hk : Bool)
    (hvL : ∀ i, i < ll → TellOk (L i)) (hvF : ∀ i, i < fl → TellOk (F i)) (w : World) (h : (V.mk 7 n s la ll lc L fa fl fc fn F e key hk).In w0) (hg : (V.mk 7 n s la ll lc L fa fl fc fn F e key hk).good) (ha : At w0 b o (V.mk 7 n s la ll lc L fa fl fc fn F e key hk).cells)
    (hwd : WordsAt w0) (htb : Lib.TabIs Tryz.prog w0 "internal/strconv.uint64pow10" .u64 Lib.pow10Tab) (he : TE B w0 w) (ht : IsT B l w) (hlen : l.length + ([60, 100, 101, 101, 100, 32] ++ (Lib.itoa n ++ (32 :: (quotedL s.data.toList ++ (32 :: (recL fl fn (fun i => (F i).told) ++ [62])))))).length ≤ 140737488355328) :
    Calls Tryz.prog 36 #[.pointer (some ⟨B, 0, none⟩), .pointer (some ⟨b, o, none⟩), tellF B] w fun x w' => x = .returned (.tuple #[]) ∧ Wrote B l ([60, 100, 101, 101, 100, 32] ++ (Lib.itoa n ++ (32 :: (quotedL s.data.toList ++ (32 :: (recL fl fn (fun i => (F i).told) ++ [62])))))) w w' := by
  have HB := Lib.hid (fun (l' : List UInt8) (c : UInt8) (W : World) (h : IsT B l' W) (hl : l'.length + 1 ≤ 140737488355328) => writeB_any B l' c W h hl)
  have HS := Lib.hid (fun (l' : List UInt8) (c : ByteArray) (W : World) (h : IsT B l' W) (hl : l'.length + c.data.toList.length ≤ 140737488355328) => writeS_any B l' c W h hl)
  have HQ := Lib.hid (fun (l' : List UInt8) (c : ByteArray) (hc : c.size ≤ maxLen) (W : World) (h : IsT B l' W) (hl : l'.length + (quotedL c.data.toList).length ≤ 140737488355328) => quoted_any B l' c W hc h hl)
  have HRec := Lib.hid (fun (l' : List UInt8) (W : World) (hfr : Fr B w W) (h' : IsT B l' W) hl => record_any w0 B l' fa fl fc fn F hvF W h.2.2.2.2.2.2.1 h.2.2.2.2.2.2.2.2 hg.2.2 hwd htb (he.fr hfr) h' hl)
  have HLst := Lib.hid (fun (l' : List UInt8) (W : World) (hfr : Fr B w W) (h' : IsT B l' W) hl => list_any w0 B l' la ll lc L hvL W h.2.2.2.2.2.1 h.2.2.2.2.2.2.2.1 hg.2.1 hwd htb (he.fr hfr) h' hl)
  have HA := Lib.hid (fun W (hfr : Fr B w W) => at8 (ha.below (by rw [he.sz]; exact (he.fr hfr).below)))
  have hss : Hid (s.size ≤ maxLen) := h.2.2.1
  have hks : Hid (key.size ≤ maxLen) := h.2.2.2.2.1
  have HLn := Lib.hid hlen
  unfold tellF at HRec HLst ⊢
  have H0 := Lib.hid (writeS_any B l ⟨#[60, 100, 101, 101, 100, 32]⟩ w ht (by simp only [List.length_append, List.length_cons, List.length_nil] at hlen ⊢; omega))
  have hnn : Hid (-9223372036854775808 ≤ n ∧ n ≤ 9223372036854775807) := h.2.1
  have HNu := Lib.hid (fun (l' : List UInt8) (W : World) (hfr : Fr B w W) (h' : IsT B l' W) hl => number_any B l' n hnn.out W h' hl (tab_fr he hfr htb))
  clear hvL hvF h hg ha hwd htb he ht hlen hks HLst
  go_enter Tryz.func36, Tryz.ntmps36
  go_wp2_with fail
  refine (H0.out).mono ?_
  rintro x w1 ⟨rfl, hw⟩
  have Hw1 := Lib.hid (hw)
  clear hw
  obtain ⟨-, c1, c2, c3, c4, c5, c6, c7⟩ := HA.out _ Hw1.out.2
  go_wp2_with fail
  clear c1 c2 c3 c4 c5 c6 c7
  refine (HNu.out _ _ Hw1.out.2 Hw1.out.1 (by have := HLn.out; simp only [List.length_append, List.length_cons, List.length_nil] at this ⊢; omega)).mono ?_
  rintro x w2 ⟨rfl, hw⟩
  have Hw2 := Lib.hid (Hw1.out.trans hw)
  clear hw
  obtain ⟨-, c1, c2, c3, c4, c5, c6, c7⟩ := HA.out _ Hw2.out.2
  go_wp2_with fail
  clear c1 c2 c3 c4 c5 c6 c7
  refine (HB.out _ 32 _ Hw2.out.1 (by have := HLn.out; simp only [List.length_append, List.length_cons, List.length_nil] at this ⊢; omega)).mono ?_
  rintro x w3 ⟨rfl, hw⟩
  have Hw3 := Lib.hid (Hw2.out.trans hw)
  clear hw
  obtain ⟨-, c1, c2, c3, c4, c5, c6, c7⟩ := HA.out _ Hw3.out.2
  go_wp2_with fail
  clear c1 c2 c3 c4 c5 c6 c7
  refine (HQ.out _ s hss.out _ Hw3.out.1 (by have := HLn.out; simp only [List.length_append, List.length_cons, List.length_nil] at this ⊢; omega)).mono ?_
  rintro x w4 ⟨rfl, hw⟩
  have Hw4 := Lib.hid (Hw3.out.trans hw)
  clear hw
  obtain ⟨-, c1, c2, c3, c4, c5, c6, c7⟩ := HA.out _ Hw4.out.2
  go_wp2_with fail
  clear c1 c2 c3 c4 c5 c6 c7
  refine (HB.out _ 32 _ Hw4.out.1 (by have := HLn.out; simp only [List.length_append, List.length_cons, List.length_nil] at this ⊢; omega)).mono ?_
  rintro x w5 ⟨rfl, hw⟩
  have Hw5 := Lib.hid (Hw4.out.trans hw)
  clear hw
  obtain ⟨-, c1, c2, c3, c4, c5, c6, c7⟩ := HA.out _ Hw5.out.2
  go_wp2_with fail
  clear c1 c2 c3 c4 c5 c6 c7
  refine (HRec.out _ _ Hw5.out.2 Hw5.out.1 (by have := HLn.out; simp only [List.length_append, List.length_cons, List.length_nil] at this ⊢; omega)).mono ?_
  rintro x w6 ⟨rfl, hw⟩
  have Hw6 := Lib.hid (Hw5.out.trans hw)
  clear hw
  obtain ⟨-, c1, c2, c3, c4, c5, c6, c7⟩ := HA.out _ Hw6.out.2
  go_wp2_with fail
  clear c1 c2 c3 c4 c5 c6 c7
  refine (HB.out _ 62 _ Hw6.out.1 (by have := HLn.out; simp only [List.length_append, List.length_cons, List.length_nil] at this ⊢; omega)).mono ?_
  rintro x w7 ⟨rfl, hw⟩
  have Hw7 := Lib.hid (Hw6.out.trans hw)
  clear hw
  go_wp2_with fail
  go_end0
  exact ⟨rfl, by simpa using Hw7.out⟩

end Go.Proofs.YtdlmemalefhgmaaGreatDoor.VT
end
section
namespace Go.Proofs.YtdlmemalefhgmaaGreatDoor.VT
set_option linter.unusedVariables false
set_option linter.unusedSimpArgs false
open Go.RowKit

theorem drew_wrote {B : Nat} {l l' : List UInt8} {w w' : World} (h : Wrote B l l' w.drew w') : Wrote B l l' w w' := ⟨h.1, (show Fr B w w.drew from ⟨(Below.refl _ _).drew, rfl, rfl⟩).trans h.2⟩

theorem TE.drew {B : Nat} {w0 w : World} (h : TE B w0 w) : TE B w0 w.drew := h.fr ⟨(Below.refl _ _).drew, rfl, rfl⟩

theorem IsT.drew {B : Nat} {l : List UInt8} {w : World} (h : IsT B l w) : IsT B l w.drew := h.below (Below.refl _ _).drew

set_option maxRecDepth 100000 in
set_option maxHeartbeats 2000000 in
theorem tell_0 (w0 w : World) (B b o : Nat) (l : List UInt8) (n : Int) (s : ByteArray) (la : Option Addr) (ll lc : Nat) (L : Nat → V) (fa : Option Addr) (fl fc : Nat) (fn : Nat → ByteArray) (F : Nat → V) (e : Int) (key : ByteArray) (hk : Bool)
    (hvL : ∀ i, TellOk (L i)) (hvF : ∀ i, TellOk (F i)) (h : (V.mk 0 n s la ll lc L fa fl fc fn F e key hk).In w0) (ha : At w0 b o (V.mk 0 n s la ll lc L fa fl fc fn F e key hk).cells) (hwd : WordsAt w0) (htb : Lib.TabIs Tryz.prog w0 "internal/strconv.uint64pow10" .u64 Lib.pow10Tab)
    (he : TE B w0 w) (ht : IsT B l w) (hlen : l.length + (V.mk 0 n s la ll lc L fa fl fc fn F e key hk).told.length ≤ 140737488355328) (hg : (V.mk 0 n s la ll lc L fa fl fc fn F e key hk).good) :
    Calls Tryz.prog 28 #[.pointer (some ⟨b, o, none⟩), .pointer (some ⟨B + 1, 0, none⟩), .pointer (some ⟨B + 2, 0, none⟩)] w fun x w' => x = .returned (.tuple #[]) ∧ Wrote B l (V.mk 0 n s la ll lc L fa fl fc fn F e key hk).told w w' := by
  have _u := And.intro hvL (And.intro hvF (And.intro h (And.intro hwd (And.intro htb hg))))
  clear _u
  obtain ⟨c0, c1, c2, c3, c4, c5, c6, c7⟩ := at8 (ha.below (by rw [he.sz]; exact he.below))
  have t1 : w.cell? ⟨B + 1, 0, none⟩ = some (.pointer (some ⟨B, 0, none⟩)) := by rw [Lib.cell_of_heap he.t]; rfl
  have t2 : w.cell? ⟨B + 2, 0, none⟩ = some (tellF B) := by rw [Lib.cell_of_heap he.f]; rfl
  have HT := Lib.hid (show (V.mk 0 n s la ll lc L fa fl fc fn F e key hk).told = [110, 111, 110, 101] by simp [V.told])
  rw [HT.out] at hlen
  have HX := Lib.hid (writeS_any B l ⟨#[110, 111, 110, 101]⟩ w ht hlen)
  clear hvL hvF h ha hwd htb he ht hlen hg
  unfold tellF at t2
  go_enter Tryz.func28, Tryz.ntmps28
  go_wp2_with fail
  refine HX.out.mono ?_
  rintro x w1 ⟨rfl, hw⟩
  have HW := Lib.hid hw
  clear hw
  go_wp2_with fail
  go_end0
  exact ⟨rfl, by rw [HT.out]; exact HW.out⟩

set_option maxRecDepth 100000 in
set_option maxHeartbeats 2000000 in
theorem tell_1 (w0 w : World) (B b o : Nat) (l : List UInt8) (n : Int) (s : ByteArray) (la : Option Addr) (ll lc : Nat) (L : Nat → V) (fa : Option Addr) (fl fc : Nat) (fn : Nat → ByteArray) (F : Nat → V) (e : Int) (key : ByteArray) (hk : Bool)
    (hvL : ∀ i, TellOk (L i)) (hvF : ∀ i, TellOk (F i)) (h : (V.mk 1 n s la ll lc L fa fl fc fn F e key hk).In w0) (ha : At w0 b o (V.mk 1 n s la ll lc L fa fl fc fn F e key hk).cells) (hwd : WordsAt w0) (htb : Lib.TabIs Tryz.prog w0 "internal/strconv.uint64pow10" .u64 Lib.pow10Tab)
    (he : TE B w0 w) (ht : IsT B l w) (hlen : l.length + (V.mk 1 n s la ll lc L fa fl fc fn F e key hk).told.length ≤ 140737488355328) (hg : (V.mk 1 n s la ll lc L fa fl fc fn F e key hk).good) :
    Calls Tryz.prog 28 #[.pointer (some ⟨b, o, none⟩), .pointer (some ⟨B + 1, 0, none⟩), .pointer (some ⟨B + 2, 0, none⟩)] w fun x w' => x = .returned (.tuple #[]) ∧ Wrote B l (V.mk 1 n s la ll lc L fa fl fc fn F e key hk).told w w' := by
  have _u := And.intro hvL (And.intro hvF (And.intro h (And.intro hwd (And.intro htb hg))))
  clear _u
  obtain ⟨c0, c1, c2, c3, c4, c5, c6, c7⟩ := at8 (ha.below (by rw [he.sz]; exact he.below))
  have t1 : w.cell? ⟨B + 1, 0, none⟩ = some (.pointer (some ⟨B, 0, none⟩)) := by rw [Lib.cell_of_heap he.t]; rfl
  have t2 : w.cell? ⟨B + 2, 0, none⟩ = some (tellF B) := by rw [Lib.cell_of_heap he.f]; rfl
  have HT := Lib.hid (show (V.mk 1 n s la ll lc L fa fl fc fn F e key hk).told = Lib.itoa n by simp [V.told])
  rw [HT.out] at hlen
  have HX := Lib.hid (number_any B l n h.2.1 w.drew ht.drew hlen (tab_fr he.drew (Fr.refl _ _) htb))
  clear hvL hvF h ha hwd htb he ht hlen hg
  unfold tellF at t2
  go_enter Tryz.func28, Tryz.ntmps28
  go_wp2_with fail
  go_still_tail 5, (by kernel_rfl)
  go_wp2_with fail
  refine HX.out.mono ?_
  rintro x w1 ⟨rfl, hw⟩
  have HW := Lib.hid hw
  clear hw
  go_wp2_with fail
  go_end0
  exact ⟨rfl, by rw [HT.out]; exact drew_wrote HW.out⟩

set_option maxRecDepth 100000 in
set_option maxHeartbeats 2000000 in
theorem tell_3 (w0 w : World) (B b o : Nat) (l : List UInt8) (n : Int) (s : ByteArray) (la : Option Addr) (ll lc : Nat) (L : Nat → V) (fa : Option Addr) (fl fc : Nat) (fn : Nat → ByteArray) (F : Nat → V) (e : Int) (key : ByteArray) (hk : Bool)
    (hvL : ∀ i, TellOk (L i)) (hvF : ∀ i, TellOk (F i)) (h : (V.mk 3 n s la ll lc L fa fl fc fn F e key hk).In w0) (ha : At w0 b o (V.mk 3 n s la ll lc L fa fl fc fn F e key hk).cells) (hwd : WordsAt w0) (htb : Lib.TabIs Tryz.prog w0 "internal/strconv.uint64pow10" .u64 Lib.pow10Tab)
    (he : TE B w0 w) (ht : IsT B l w) (hlen : l.length + (V.mk 3 n s la ll lc L fa fl fc fn F e key hk).told.length ≤ 140737488355328) (hg : (V.mk 3 n s la ll lc L fa fl fc fn F e key hk).good) :
    Calls Tryz.prog 28 #[.pointer (some ⟨b, o, none⟩), .pointer (some ⟨B + 1, 0, none⟩), .pointer (some ⟨B + 2, 0, none⟩)] w fun x w' => x = .returned (.tuple #[]) ∧ Wrote B l (V.mk 3 n s la ll lc L fa fl fc fn F e key hk).told w w' := by
  have _u := And.intro hvL (And.intro hvF (And.intro h (And.intro hwd (And.intro htb hg))))
  clear _u
  obtain ⟨c0, c1, c2, c3, c4, c5, c6, c7⟩ := at8 (ha.below (by rw [he.sz]; exact he.below))
  have t1 : w.cell? ⟨B + 1, 0, none⟩ = some (.pointer (some ⟨B, 0, none⟩)) := by rw [Lib.cell_of_heap he.t]; rfl
  have t2 : w.cell? ⟨B + 2, 0, none⟩ = some (tellF B) := by rw [Lib.cell_of_heap he.f]; rfl
  have HT := Lib.hid (show (V.mk 3 n s la ll lc L fa fl fc fn F e key hk).told = quotedL s.data.toList by simp [V.told])
  rw [HT.out] at hlen
  have HX := Lib.hid (quoted_any B l s w.drew h.2.2.1 ht.drew hlen)
  clear hvL hvF h ha hwd htb he ht hlen hg
  unfold tellF at t2
  go_enter Tryz.func28, Tryz.ntmps28
  go_wp2_with fail
  go_still_tail 5, (by kernel_rfl)
  go_wp2_with fail
  refine HX.out.mono ?_
  rintro x w1 ⟨rfl, hw⟩
  have HW := Lib.hid hw
  clear hw
  go_wp2_with fail
  go_end0
  exact ⟨rfl, by rw [HT.out]; exact drew_wrote HW.out⟩

set_option maxRecDepth 100000 in
set_option maxHeartbeats 2000000 in
theorem tell_4 (w0 w : World) (B b o : Nat) (l : List UInt8) (n : Int) (s : ByteArray) (la : Option Addr) (ll lc : Nat) (L : Nat → V) (fa : Option Addr) (fl fc : Nat) (fn : Nat → ByteArray) (F : Nat → V) (e : Int) (key : ByteArray) (hk : Bool)
    (hvL : ∀ i, TellOk (L i)) (hvF : ∀ i, TellOk (F i)) (h : (V.mk 4 n s la ll lc L fa fl fc fn F e key hk).In w0) (ha : At w0 b o (V.mk 4 n s la ll lc L fa fl fc fn F e key hk).cells) (hwd : WordsAt w0) (htb : Lib.TabIs Tryz.prog w0 "internal/strconv.uint64pow10" .u64 Lib.pow10Tab)
    (he : TE B w0 w) (ht : IsT B l w) (hlen : l.length + (V.mk 4 n s la ll lc L fa fl fc fn F e key hk).told.length ≤ 140737488355328) (hg : (V.mk 4 n s la ll lc L fa fl fc fn F e key hk).good) :
    Calls Tryz.prog 28 #[.pointer (some ⟨b, o, none⟩), .pointer (some ⟨B + 1, 0, none⟩), .pointer (some ⟨B + 2, 0, none⟩)] w fun x w' => x = .returned (.tuple #[]) ∧ Wrote B l (V.mk 4 n s la ll lc L fa fl fc fn F e key hk).told w w' := by
  have _u := And.intro hvL (And.intro hvF (And.intro h (And.intro hwd (And.intro htb hg))))
  clear _u
  obtain ⟨c0, c1, c2, c3, c4, c5, c6, c7⟩ := at8 (ha.below (by rw [he.sz]; exact he.below))
  have t1 : w.cell? ⟨B + 1, 0, none⟩ = some (.pointer (some ⟨B, 0, none⟩)) := by rw [Lib.cell_of_heap he.t]; rfl
  have t2 : w.cell? ⟨B + 2, 0, none⟩ = some (tellF B) := by rw [Lib.cell_of_heap he.f]; rfl
  have HT := Lib.hid (show (V.mk 4 n s la ll lc L fa fl fc fn F e key hk).told = listL ll (fun i => (L i).told) by simp [V.told])
  rw [HT.out] at hlen
  have HX := Lib.hid (list_any w0 B l la ll lc L (fun i _ => hvL i) w.drew h.2.2.2.2.2.1 h.2.2.2.2.2.2.2.1 hg.2.1 hwd htb he.drew ht.drew hlen)
  unfold tellF at HX
  clear hvL hvF h ha hwd htb he ht hlen hg
  unfold tellF at t2
  go_enter Tryz.func28, Tryz.ntmps28
  go_wp2_with fail
  go_still_tail 6, (by kernel_rfl)
  go_wp2_with fail
  refine HX.out.mono ?_
  rintro x w1 ⟨rfl, hw⟩
  have HW := Lib.hid hw
  clear hw
  go_wp2_with fail
  go_end0
  exact ⟨rfl, by rw [HT.out]; exact drew_wrote HW.out⟩

set_option maxRecDepth 100000 in
set_option maxHeartbeats 2000000 in
theorem tell_5 (w0 w : World) (B b o : Nat) (l : List UInt8) (n : Int) (s : ByteArray) (la : Option Addr) (ll lc : Nat) (L : Nat → V) (fa : Option Addr) (fl fc : Nat) (fn : Nat → ByteArray) (F : Nat → V) (e : Int) (key : ByteArray) (hk : Bool)
    (hvL : ∀ i, TellOk (L i)) (hvF : ∀ i, TellOk (F i)) (h : (V.mk 5 n s la ll lc L fa fl fc fn F e key hk).In w0) (ha : At w0 b o (V.mk 5 n s la ll lc L fa fl fc fn F e key hk).cells) (hwd : WordsAt w0) (htb : Lib.TabIs Tryz.prog w0 "internal/strconv.uint64pow10" .u64 Lib.pow10Tab)
    (he : TE B w0 w) (ht : IsT B l w) (hlen : l.length + (V.mk 5 n s la ll lc L fa fl fc fn F e key hk).told.length ≤ 140737488355328) (hg : (V.mk 5 n s la ll lc L fa fl fc fn F e key hk).good) :
    Calls Tryz.prog 28 #[.pointer (some ⟨b, o, none⟩), .pointer (some ⟨B + 1, 0, none⟩), .pointer (some ⟨B + 2, 0, none⟩)] w fun x w' => x = .returned (.tuple #[]) ∧ Wrote B l (V.mk 5 n s la ll lc L fa fl fc fn F e key hk).told w w' := by
  have _u := And.intro hvL (And.intro hvF (And.intro h (And.intro hwd (And.intro htb hg))))
  clear _u
  obtain ⟨c0, c1, c2, c3, c4, c5, c6, c7⟩ := at8 (ha.below (by rw [he.sz]; exact he.below))
  have t1 : w.cell? ⟨B + 1, 0, none⟩ = some (.pointer (some ⟨B, 0, none⟩)) := by rw [Lib.cell_of_heap he.t]; rfl
  have t2 : w.cell? ⟨B + 2, 0, none⟩ = some (tellF B) := by rw [Lib.cell_of_heap he.f]; rfl
  have HT := Lib.hid (show (V.mk 5 n s la ll lc L fa fl fc fn F e key hk).told = recL fl fn (fun i => (F i).told) by simp [V.told])
  rw [HT.out] at hlen
  have HX := Lib.hid (record_any w0 B l fa fl fc fn F (fun i _ => hvF i) w.drew h.2.2.2.2.2.2.1 h.2.2.2.2.2.2.2.2 hg.2.2 hwd htb he.drew ht.drew hlen)
  unfold tellF at HX
  clear hvL hvF h ha hwd htb he ht hlen hg
  unfold tellF at t2
  go_enter Tryz.func28, Tryz.ntmps28
  go_wp2_with fail
  go_still_tail 6, (by kernel_rfl)
  go_wp2_with fail
  refine HX.out.mono ?_
  rintro x w1 ⟨rfl, hw⟩
  have HW := Lib.hid hw
  clear hw
  go_wp2_with fail
  go_end0
  exact ⟨rfl, by rw [HT.out]; exact drew_wrote HW.out⟩

set_option maxRecDepth 100000 in
set_option maxHeartbeats 2000000 in
theorem tell_7 (w0 w : World) (B b o : Nat) (l : List UInt8) (n : Int) (s : ByteArray) (la : Option Addr) (ll lc : Nat) (L : Nat → V) (fa : Option Addr) (fl fc : Nat) (fn : Nat → ByteArray) (F : Nat → V) (e : Int) (key : ByteArray) (hk : Bool)
    (hvL : ∀ i, TellOk (L i)) (hvF : ∀ i, TellOk (F i)) (h : (V.mk 7 n s la ll lc L fa fl fc fn F e key hk).In w0) (ha : At w0 b o (V.mk 7 n s la ll lc L fa fl fc fn F e key hk).cells) (hwd : WordsAt w0) (htb : Lib.TabIs Tryz.prog w0 "internal/strconv.uint64pow10" .u64 Lib.pow10Tab)
    (he : TE B w0 w) (ht : IsT B l w) (hlen : l.length + (V.mk 7 n s la ll lc L fa fl fc fn F e key hk).told.length ≤ 140737488355328) (hg : (V.mk 7 n s la ll lc L fa fl fc fn F e key hk).good) :
    Calls Tryz.prog 28 #[.pointer (some ⟨b, o, none⟩), .pointer (some ⟨B + 1, 0, none⟩), .pointer (some ⟨B + 2, 0, none⟩)] w fun x w' => x = .returned (.tuple #[]) ∧ Wrote B l (V.mk 7 n s la ll lc L fa fl fc fn F e key hk).told w w' := by
  have _u := And.intro hvL (And.intro hvF (And.intro h (And.intro hwd (And.intro htb hg))))
  clear _u
  obtain ⟨c0, c1, c2, c3, c4, c5, c6, c7⟩ := at8 (ha.below (by rw [he.sz]; exact he.below))
  have t1 : w.cell? ⟨B + 1, 0, none⟩ = some (.pointer (some ⟨B, 0, none⟩)) := by rw [Lib.cell_of_heap he.t]; rfl
  have t2 : w.cell? ⟨B + 2, 0, none⟩ = some (tellF B) := by rw [Lib.cell_of_heap he.f]; rfl
  have HT := Lib.hid (show (V.mk 7 n s la ll lc L fa fl fc fn F e key hk).told = [60, 100, 101, 101, 100, 32] ++ (Lib.itoa n ++ (32 :: (quotedL s.data.toList ++ (32 :: (recL fl fn (fun i => (F i).told) ++ [62]))))) by simp [V.told])
  rw [HT.out] at hlen
  have HX := Lib.hid (deed_any w0 B b o l n s la ll lc L fa fl fc fn F e key hk (fun i _ => hvL i) (fun i _ => hvF i) w h hg ha hwd htb he ht hlen)
  unfold tellF at HX
  clear hvL hvF h ha hwd htb he ht hlen hg
  unfold tellF at t2
  go_enter Tryz.func28, Tryz.ntmps28
  go_wp2_with fail
  refine HX.out.mono ?_
  rintro x w1 ⟨rfl, hw⟩
  have HW := Lib.hid hw
  clear hw
  go_wp2_with fail
  go_end0
  exact ⟨rfl, by rw [HT.out]; exact HW.out⟩

set_option maxRecDepth 100000 in
set_option maxHeartbeats 2000000 in
theorem tell_2 (w0 w : World) (B b o : Nat) (l : List UInt8) (n : Int) (s : ByteArray) (la : Option Addr) (ll lc : Nat) (L : Nat → V) (fa : Option Addr) (fl fc : Nat) (fn : Nat → ByteArray) (F : Nat → V) (e : Int) (key : ByteArray) (hk : Bool)
    (hvL : ∀ i, TellOk (L i)) (hvF : ∀ i, TellOk (F i)) (h : (V.mk 2 n s la ll lc L fa fl fc fn F e key hk).In w0) (ha : At w0 b o (V.mk 2 n s la ll lc L fa fl fc fn F e key hk).cells) (hwd : WordsAt w0) (htb : Lib.TabIs Tryz.prog w0 "internal/strconv.uint64pow10" .u64 Lib.pow10Tab)
    (he : TE B w0 w) (ht : IsT B l w) (hlen : l.length + (V.mk 2 n s la ll lc L fa fl fc fn F e key hk).told.length ≤ 140737488355328) (hg : (V.mk 2 n s la ll lc L fa fl fc fn F e key hk).good) :
    Calls Tryz.prog 28 #[.pointer (some ⟨b, o, none⟩), .pointer (some ⟨B + 1, 0, none⟩), .pointer (some ⟨B + 2, 0, none⟩)] w fun x w' => x = .returned (.tuple #[]) ∧ Wrote B l (V.mk 2 n s la ll lc L fa fl fc fn F e key hk).told w w' := by
  have _u := And.intro hvL (And.intro hvF (And.intro h (And.intro hwd (And.intro htb hg))))
  clear _u
  obtain ⟨c0, c1, c2, c3, c4, c5, c6, c7⟩ := at8 (ha.below (by rw [he.sz]; exact he.below))
  have t1 : w.cell? ⟨B + 1, 0, none⟩ = some (.pointer (some ⟨B, 0, none⟩)) := by rw [Lib.cell_of_heap he.t]; rfl
  have t2 : w.cell? ⟨B + 2, 0, none⟩ = some (tellF B) := by rw [Lib.cell_of_heap he.f]; rfl
  by_cases n1 : n = 1
  · subst n1
    have HT := Lib.hid (show (V.mk 2 1 s la ll lc L fa fl fc fn F e key hk).told = [121, 101, 115] by simp [V.told])
    rw [HT.out] at hlen
    have HX := Lib.hid (truth_any B l true w.drew ht.drew hlen)
    clear hvL hvF h ha hwd htb he ht hlen hg
    unfold tellF at t2
    go_enter Tryz.func28, Tryz.ntmps28
    go_wp2_with fail
    go_still_tail 6, (by kernel_rfl)
    go_wp2_with fail
    refine HX.out.mono ?_
    rintro x w1 ⟨rfl, hw⟩
    have HW := Lib.hid hw
    clear hw
    go_wp2_with fail
    go_end0
    exact ⟨rfl, by rw [HT.out]; exact drew_wrote HW.out⟩
  · have HT := Lib.hid (show (V.mk 2 n s la ll lc L fa fl fc fn F e key hk).told = [110, 111] by simp [V.told, n1])
    rw [HT.out] at hlen
    have HX := Lib.hid (truth_any B l false w.drew ht.drew hlen)
    have qn : (n == 1) = false := by simp [n1]
    clear hvL hvF h ha hwd htb he ht hlen hg
    unfold tellF at t2
    go_enter Tryz.func28, Tryz.ntmps28
    go_wp2_with fail
    go_still_tail 6, (by kernel_rfl)
    go_wp2_with fail
    refine HX.out.mono ?_
    rintro x w1 ⟨rfl, hw⟩
    have HW := Lib.hid hw
    clear hw
    go_wp2_with fail
    go_end0
    exact ⟨rfl, by rw [HT.out]; exact drew_wrote HW.out⟩

set_option maxRecDepth 100000 in
set_option maxHeartbeats 2000000 in
theorem tell_6f (w0 w : World) (B b o : Nat) (l : List UInt8) (n : Int) (s : ByteArray) (la : Option Addr) (ll lc : Nat) (L : Nat → V) (fa : Option Addr) (fl fc : Nat) (fn : Nat → ByteArray) (F : Nat → V) (e : Nat) (key : ByteArray)
    (hvL : ∀ i, TellOk (L i)) (hvF : ∀ i, TellOk (F i)) (h : (V.mk 6 n s la ll lc L fa fl fc fn F e key false).In w0) (ha : At w0 b o (V.mk 6 n s la ll lc L fa fl fc fn F e key false).cells) (hwd : WordsAt w0) (htb : Lib.TabIs Tryz.prog w0 "internal/strconv.uint64pow10" .u64 Lib.pow10Tab)
    (he : TE B w0 w) (ht : IsT B l w) (hlen : l.length + (V.mk 6 n s la ll lc L fa fl fc fn F e key false).told.length ≤ 140737488355328) (hg : (V.mk 6 n s la ll lc L fa fl fc fn F e key false).good) :
    Calls Tryz.prog 28 #[.pointer (some ⟨b, o, none⟩), .pointer (some ⟨B + 1, 0, none⟩), .pointer (some ⟨B + 2, 0, none⟩)] w fun x w' => x = .returned (.tuple #[]) ∧ Wrote B l (V.mk 6 n s la ll lc L fa fl fc fn F e key false).told w w' := by
  have _u := And.intro hvL (And.intro hvF (And.intro h (And.intro hwd (And.intro htb hg))))
  clear _u
  obtain ⟨c0, c1, c2, c3, c4, c5, c6, c7⟩ := at8 (ha.below (by rw [he.sz]; exact he.below))
  have t1 : w.cell? ⟨B + 1, 0, none⟩ = some (.pointer (some ⟨B, 0, none⟩)) := by rw [Lib.cell_of_heap he.t]; rfl
  have t2 : w.cell? ⟨B + 2, 0, none⟩ = some (tellF B) := by rw [Lib.cell_of_heap he.f]; rfl
  have HT := Lib.hid (show (V.mk 6 n s la ll lc L fa fl fc fn F e key false).told = 60 :: (wordL (e : Nat) ++ (32 :: (quotedL s.data.toList ++ (([]) ++ (32 :: (recL fl fn (fun i => (F i).told) ++ (32 :: (listL ll (fun i => (L i).told) ++ [62])))))))) by simp [V.told])
  rw [HT.out] at hlen
  have HX := Lib.hid (elem_false w0 B b o l n s la ll lc L fa fl fc fn F e key (fun i _ => hvL i) (fun i _ => hvF i) w h hg ha hwd htb he ht hlen)
  unfold tellF at HX
  clear hvL hvF h ha hwd htb he ht hlen hg
  unfold tellF at t2
  go_enter Tryz.func28, Tryz.ntmps28
  go_wp2_with fail
  refine HX.out.mono ?_
  rintro x w1 ⟨rfl, hw⟩
  have HW := Lib.hid hw
  clear hw
  go_wp2_with fail
  go_end0
  exact ⟨rfl, by rw [HT.out]; exact HW.out⟩

set_option maxRecDepth 100000 in
set_option maxHeartbeats 2000000 in
theorem tell_6t (w0 w : World) (B b o : Nat) (l : List UInt8) (n : Int) (s : ByteArray) (la : Option Addr) (ll lc : Nat) (L : Nat → V) (fa : Option Addr) (fl fc : Nat) (fn : Nat → ByteArray) (F : Nat → V) (e : Nat) (key : ByteArray)
    (hvL : ∀ i, TellOk (L i)) (hvF : ∀ i, TellOk (F i)) (h : (V.mk 6 n s la ll lc L fa fl fc fn F e key true).In w0) (ha : At w0 b o (V.mk 6 n s la ll lc L fa fl fc fn F e key true).cells) (hwd : WordsAt w0) (htb : Lib.TabIs Tryz.prog w0 "internal/strconv.uint64pow10" .u64 Lib.pow10Tab)
    (he : TE B w0 w) (ht : IsT B l w) (hlen : l.length + (V.mk 6 n s la ll lc L fa fl fc fn F e key true).told.length ≤ 140737488355328) (hg : (V.mk 6 n s la ll lc L fa fl fc fn F e key true).good) :
    Calls Tryz.prog 28 #[.pointer (some ⟨b, o, none⟩), .pointer (some ⟨B + 1, 0, none⟩), .pointer (some ⟨B + 2, 0, none⟩)] w fun x w' => x = .returned (.tuple #[]) ∧ Wrote B l (V.mk 6 n s la ll lc L fa fl fc fn F e key true).told w w' := by
  have _u := And.intro hvL (And.intro hvF (And.intro h (And.intro hwd (And.intro htb hg))))
  clear _u
  obtain ⟨c0, c1, c2, c3, c4, c5, c6, c7⟩ := at8 (ha.below (by rw [he.sz]; exact he.below))
  have t1 : w.cell? ⟨B + 1, 0, none⟩ = some (.pointer (some ⟨B, 0, none⟩)) := by rw [Lib.cell_of_heap he.t]; rfl
  have t2 : w.cell? ⟨B + 2, 0, none⟩ = some (tellF B) := by rw [Lib.cell_of_heap he.f]; rfl
  have HT := Lib.hid (show (V.mk 6 n s la ll lc L fa fl fc fn F e key true).told = 60 :: (wordL (e : Nat) ++ (32 :: (quotedL s.data.toList ++ (([32, 107, 101, 121, 32] ++ quotedL key.data.toList) ++ (32 :: (recL fl fn (fun i => (F i).told) ++ (32 :: (listL ll (fun i => (L i).told) ++ [62])))))))) by simp [V.told])
  rw [HT.out] at hlen
  have HX := Lib.hid (elem_true w0 B b o l n s la ll lc L fa fl fc fn F e key (fun i _ => hvL i) (fun i _ => hvF i) w h hg ha hwd htb he ht hlen)
  unfold tellF at HX
  clear hvL hvF h ha hwd htb he ht hlen hg
  unfold tellF at t2
  go_enter Tryz.func28, Tryz.ntmps28
  go_wp2_with fail
  refine HX.out.mono ?_
  rintro x w1 ⟨rfl, hw⟩
  have HW := Lib.hid hw
  clear hw
  go_wp2_with fail
  go_end0
  exact ⟨rfl, by rw [HT.out]; exact HW.out⟩

set_option maxRecDepth 100000 in
set_option maxHeartbeats 2000000 in
/-- Some other kind: nothing is written. -/
theorem tell_9 (w0 w : World) (B b o : Nat) (l : List UInt8) (k n : Int) (s : ByteArray) (la : Option Addr) (ll lc : Nat) (L : Nat → V) (fa : Option Addr) (fl fc : Nat) (fn : Nat → ByteArray) (F : Nat → V) (e : Int) (key : ByteArray) (hk : Bool)
    (ha : At w0 b o (V.mk k n s la ll lc L fa fl fc fn F e key hk).cells) (hk7 : 7 < k)
    (he : TE B w0 w) (ht : IsT B l w) :
    Calls Tryz.prog 28 #[.pointer (some ⟨b, o, none⟩), .pointer (some ⟨B + 1, 0, none⟩), .pointer (some ⟨B + 2, 0, none⟩)] w fun x w' => x = .returned (.tuple #[]) ∧ Wrote B l (V.mk k n s la ll lc L fa fl fc fn F e key hk).told w w' := by
  obtain ⟨c0, c1, c2, c3, c4, c5, c6, c7⟩ := at8 (ha.below (by rw [he.sz]; exact he.below))
  have t1 : w.cell? ⟨B + 1, 0, none⟩ = some (.pointer (some ⟨B, 0, none⟩)) := by rw [Lib.cell_of_heap he.t]; rfl
  have t2 : w.cell? ⟨B + 2, 0, none⟩ = some (tellF B) := by rw [Lib.cell_of_heap he.f]; rfl
  have q0 : (k == 0) = false := by simp; omega
  have q1 : (k == 1) = false := by simp; omega
  have q2 : (k == 2) = false := by simp; omega
  have q3 : (k == 3) = false := by simp; omega
  have q4 : (k == 4) = false := by simp; omega
  have q5 : (k == 5) = false := by simp; omega
  have q6 : (k == 6) = false := by simp; omega
  have q7 : (k == 7) = false := by simp; omega
  have HX := Lib.hid (show Wrote B l (V.mk k n s la ll lc L fa fl fc fn F e key hk).told w w by
    have hT : (V.mk k n s la ll lc L fa fl fc fn F e key hk).told = [] := by
      simp only [beq_eq_false_iff_ne, ne_eq] at q0 q1 q2 q3 q4 q5 q6 q7
      simp only [V.told, if_neg q0, if_neg q1, if_neg q2, if_neg q3, if_neg q4, if_neg q5, if_neg q6, if_neg q7]
    rw [hT]
    exact Wrote.nil ht)
  clear ha he ht hk7
  unfold tellF at t2
  go_enter Tryz.func28, Tryz.ntmps28
  go_wp2_with fail
  go_end0
  exact ⟨rfl, HX.out⟩

theorem tell_any : ∀ v : V, TellOk v := by
  intro v
  induction v with
  | leaf => exact fun w0 w B b o l h => h.elim
  | mk k n s la ll lc L fa fl fc fn F e key hk ihL ihF =>
  intro w0 w B b o l h ha hwd htb he ht hlen hg
  have hk0 := h.1.1
  by_cases k7 : 7 < k
  · exact tell_9 w0 w B b o l k n s la ll lc L fa fl fc fn F e key hk ha k7 he ht
  have hm : k = 0 ∨ k = 1 ∨ k = 2 ∨ k = 3 ∨ k = 4 ∨ k = 5 ∨ k = 6 ∨ k = 7 := by omega
  clear hk0 k7
  rcases hm with rfl | rfl | rfl | rfl | rfl | rfl | rfl | rfl
  · exact tell_0 w0 w B b o l n s la ll lc L fa fl fc fn F e key hk ihL ihF h ha hwd htb he ht hlen hg
  · exact tell_1 w0 w B b o l n s la ll lc L fa fl fc fn F e key hk ihL ihF h ha hwd htb he ht hlen hg
  · exact tell_2 w0 w B b o l n s la ll lc L fa fl fc fn F e key hk ihL ihF h ha hwd htb he ht hlen hg
  · exact tell_3 w0 w B b o l n s la ll lc L fa fl fc fn F e key hk ihL ihF h ha hwd htb he ht hlen hg
  · exact tell_4 w0 w B b o l n s la ll lc L fa fl fc fn F e key hk ihL ihF h ha hwd htb he ht hlen hg
  · exact tell_5 w0 w B b o l n s la ll lc L fa fl fc fn F e key hk ihL ihF h ha hwd htb he ht hlen hg
  · have h8 := hg.1 rfl
    obtain ⟨e', rfl⟩ : ∃ e' : Nat, e = e' := ⟨e.toNat, by omega⟩
    cases hk with
    | false => exact tell_6f w0 w B b o l n s la ll lc L fa fl fc fn F e' key ihL ihF h ha hwd htb he ht hlen hg
    | true => exact tell_6t w0 w B b o l n s la ll lc L fa fl fc fn F e' key ihL ihF h ha hwd htb he ht hlen hg
  · exact tell_7 w0 w B b o l n s la ll lc L fa fl fc fn F e key hk ihL ihF h ha hwd htb he ht hlen hg

end Go.Proofs.YtdlmemalefhgmaaGreatDoor.VT
end
section
namespace Go.Proofs.YtdlmemalefhgmaaGreatDoor.VT
set_option linter.unusedVariables false
set_option linter.unusedSimpArgs false
open Go.RowKit

theorem cells_u8 : Tryz.prog.cellsOf 5 = 1 := by kernel_rfl

set_option maxRecDepth 100000 in
set_option maxHeartbeats 2000000 in
theorem string_any (B : Nat) (l : List UInt8) (w : World) (h : IsT B l w) (h0 : l ≠ []) :
    Calls Tryz.prog 37 #[.pointer (some ⟨B, 0, none⟩)] w fun e w' => e = .returned (.string ⟨l.toArray⟩) ∧ Below B w w' := by
  obtain ⟨p, v, hbk, hown⟩ : ∃ p, BAt B p (Lib.byteCells l) w := by
    rcases h.1 with h | h
    · exact ⟨_, h⟩
    · exact ⟨_, h⟩
  have hl0 : l.length ≠ 0 := by simpa using h0
  rw [Lib.byteCells_length] at hown
  obtain ⟨g, cap, cur, rfl, hbg, hg, hnc, hcm, hcs, htake⟩ : ∃ g cap cur, v = .slice (some ⟨g, 0, none⟩) l.length cap ∧ B + 3 ≤ g ∧ w.heap[g]? = some (.cells cur 5 (0, 0)) ∧ l.length ≤ cap ∧ cap ≤ maxLen ∧ cur.size = cap * 1 ∧ cur.toList.take (l.length * 1) = Lib.byteCells l := by
    rcases hown.2 with ⟨_, hz⟩ | ⟨g, cap, cur, hv, r⟩
    · exact absurd hz hl0
    · exact ⟨g, cap, cur, hv, r⟩
  have c1 : w.drew.cell? ⟨B, 1, none⟩ = some (.slice (some ⟨g, 0, none⟩) l.length cap) := by
    have : w.drew.heap[B]? = some (.cells #[p, .slice (some ⟨g, 0, none⟩) l.length cap] 88 (0, 0)) := hbk
    rw [Lib.cell_of_heap this]; rfl
  have hSD : (Builtin.unsafeSliceData_ #[84] 127 #[.slice (some ⟨g, 0, none⟩) l.length cap]).run Tryz.prog w.drew = .ok (.pointer (some ⟨g, 0, none⟩)) w.drew :=
    Lib.run_unsafeSliceData_row _ _ _ _ _ _ (by omega)
  have hUS : (Builtin.unsafeString_ #[127, 3] 9 #[.pointer (some ⟨g, 0, none⟩), .int .i64 l.length]).run Tryz.prog w.drew = .ok (.string ⟨l.toArray⟩) (w.drew.freeze ⟨g, 0, none⟩ l.length) := by
    refine Lib.run_unsafeString_row w.drew 127 3 9 5 Tryz.underlying127 cells_u8 g cur.size (by have hg' : w.drew.heap[g]? = some (.cells cur 5 (0, 0)) := hg; simp [World.shape?, hg']) l h0 (by omega) (by unfold maxLen at hcm; omega) ?_
    intro j x hx
    have := hown.cells (g := g) rfl j (.int .u8 x.toNat) (by simp [Lib.byteCells, hx])
    exact this
  have mixed : Tryz.prog.follows Departure.mixedOrders = true := by kernel_rfl
  clear h hown htake
  go_enter Tryz.func37, Tryz.ntmps37
  go_wp2
  go_region_o
  all_goals (go_wp2; go_ret; exact ⟨rfl, Lib.below_freeze (Below.drew (Below.refl B w)) (p := ⟨g, 0, none⟩) (by show B ≤ g; omega) _⟩)
end Go.Proofs.YtdlmemalefhgmaaGreatDoor.VT
end
