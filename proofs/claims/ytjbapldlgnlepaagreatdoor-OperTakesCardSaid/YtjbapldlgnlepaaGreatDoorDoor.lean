/-
  The seat's door: what the listed variables hold gives the three tables ('tabs_of_laid'); a world for the witness in which they hold it ('laid_met'); how an argument opens.
  Conditions: none.
-/
import Derived.Test.YtjbapldlgnlepaaGreatDoorTabs
import Derived.Test.YtjbapldlgnlepaaGreatDoorCards
import Derived.Test.YtjbapldlgnlepaaGreatDoorTie
import Derived.ChangeSame
import Derived.JoinedOf
import Derived.JoinedAt
import Derived.RowKit
import Derived.RowKit2
import Derived.ReadAgain
import Derived.ChangeAlike
import Derived.ProofKit
import Derived.OpenShut
import Derived.Deep.DeepHandedRow
import Derived.Lib.LaidTab
import Derived.Lib.LaidU8
import Derived.Deep.DeepLaidRun
namespace Go.Proofs.YtjbapldlgnlepaaGreatDoor
open Go.ChangeShapes Go.WideShapes Go.ChangeAt Go.RowKit Go.Deep

theorem Tryz.own : ownKnob Tryz.prog.godebug = none := by kernel_rfl
theorem Tryz.laidOut : laidOutB Tryz.prog = true := by kernel_rfl
theorem gRows : Tryz.prog.globalNamed "tapestry/value.rows" = some 0 := by kernel_rfl
theorem gRowsT : (Tryz.prog.globals[0]?).map (·.type) = some 198 := by kernel_rfl
theorem gWords : Tryz.prog.globalNamed "tapestry/value.words" = some 1 := by kernel_rfl
theorem gWordsT : (Tryz.prog.globals[1]?).map (·.type) = some 259 := by kernel_rfl
theorem gPow : Tryz.prog.globalNamed "internal/strconv.uint64pow10" = some 2 := by kernel_rfl
theorem gPowT : (Tryz.prog.globals[2]?).map (·.type) = some 270 := by kernel_rfl
theorem cRow : Tryz.prog.cellsOf 197 = 5 := by kernel_rfl
theorem cStr : Tryz.prog.cellsOf 9 = 1 := by kernel_rfl

section
variable {H : Type} {enc : TypeId × Value → H} {P : Program} {w : World} {base : Nat} {sp : Nat → Bool} {held : Bool}

/-- A struct whose fields are bools, that reads as these, holds them, cell for cell. -/
theorem bools_of_struct {fuel : Nat} {t : TypeId} {fs : Array Field} {cs : List Value} {zs : List Bool} {p : List MemPlace} (ht : P.underlying t = some (.struct fs))
    (hf : ∀ (i : Nat) (f : Field), fs[i]? = some f → P.underlying f.type = some .bool ∧ f.offset = i ∧ P.cellsOf f.type = 1) (hct : P.cellsOf t = fs.size)
    (h : DataW.trod enc P w base sp held fuel t cs = some (.agg (zs.map fun z => .lit (.bool z)), p)) : cs = zs.map Value.bool := by
  obtain ⟨xs, n, rfl, hx, hl, hxl, hall⟩ := DataW.trod_struct ht h
  have hxs : xs.map (·.1) = zs.map fun z => (DataW.lit (.bool z) : DataW H) := by
    have := congrArg Prod.fst hx
    simpa using this.symm
  have hzl : zs.length = fs.size := by
    have := congrArg List.length hxs
    simp at this
    omega
  apply List.ext_getElem?
  intro i
  by_cases hi : i < fs.size
  · obtain ⟨hu, ho, hc⟩ := hf i fs[i] (by simp [hi])
    have h1 := hall i fs[i] (by simp [hi])
    obtain ⟨b, hb⟩ : ∃ b, xs[i]? = some b := ⟨xs[i]'(by omega), List.getElem?_eq_getElem (by omega)⟩
    rw [hb, ho, hc] at h1
    obtain ⟨z, hcz, rfl⟩ := DataW.trod_bool hu h1
    have h2 : cs[i]? = some (.bool z) := by
      have := congrArg (·[0]?) hcz
      simpa [List.getElem?_take, List.getElem?_drop] using this
    have h3 : (xs.map (·.1))[i]? = some (DataW.lit (.bool z) : DataW H) := by simp [hb]
    rw [hxs] at h3
    simp only [List.getElem?_map, Option.map_eq_some_iff, DataW.lit.injEq, Lit.bool.injEq] at h3
    obtain ⟨z', hz', rfl⟩ := h3
    simp [h2, hz']
  · rw [List.getElem?_eq_none (by omega), List.getElem?_eq_none (by simp; omega)]
end

theorem rows_of_reads {W : World} (h : Lib.VarReads Tryz.prog W "tapestry/value.rows" Rows.laid_tapestry_value_rows) : RowsAt W := by
  obtain ⟨g, t, cs, fuel, p, hg, ht, hv, hd⟩ := h
  obtain rfl := Option.some.inj (gRows.symm.trans hg)
  obtain rfl := Option.some.inj (gRowsT.symm.trans ht)
  have hq : ∀ q, q < 8 → (cs.toList.drop (q * 5)).take 5 = ((rowsL.drop (q * 5)).take 5).map Value.bool := by
    intro q hq
    obtain ⟨fuel', d, p', e1, e2⟩ := Lib.array_elem Tryz.underlying198 hd q hq
    rw [cRow] at e2
    have e3 : some d = some (DataW.agg (((rowsL.drop (q * 5)).take 5).map fun z => .lit (.bool z))) := by
      rw [← e1]
      match q, hq with
      | 0, _ | 1, _ | 2, _ | 3, _ | 4, _ | 5, _ | 6, _ | 7, _ => rfl
    obtain rfl := Option.some.inj e3
    refine bools_of_struct Tryz.underlying197 (fun i f hf => ?_) (by kernel_rfl) e2
    match i, hf with
    | 0, hf | 1, hf | 2, hf | 3, hf | 4, hf =>
      simp at hf
      subst hf
      exact ⟨Tryz.underlying4, rfl, by kernel_rfl⟩
  intro i hi
  have e := hq (i / 5) (by omega)
  have e' := congrArg (fun l : List Value => l[i % 5]?) e
  simp only [List.getElem?_take, List.getElem?_drop, List.getElem?_map, if_pos (Nat.mod_lt i (show 0 < 5 by decide)), show i / 5 * 5 + i % 5 = i by omega] at e'
  have hlen : i < rowsL.length := hi
  rw [World.var?_cell gRows hv i, ← Array.getElem?_toList, e', List.getD_eq_getElem?_getD, List.getElem?_eq_getElem hlen]
  rfl

theorem words_of_reads {W : World} (h : Lib.VarReads Tryz.prog W "tapestry/value.words" Rows.laid_tapestry_value_words) : WordsAt W := by
  obtain ⟨g, t, cs, fuel, p, hg, ht, hv, hd⟩ := h
  obtain rfl := Option.some.inj (gWords.symm.trans hg)
  obtain rfl := Option.some.inj (gWordsT.symm.trans ht)
  intro i hi
  obtain ⟨fuel', d, p', e1, e2⟩ := Lib.array_elem Tryz.underlying259 hd i hi
  rw [cStr, Nat.mul_one] at e2
  have e3 : some d = some (DataW.lit (.string (wordL i))) := by
    rw [← e1]
    match i, hi with
    | 0, _ | 1, _ | 2, _ | 3, _ | 4, _ | 5, _ | 6, _ | 7, _ | 8, _ => rfl
  obtain rfl := Option.some.inj e3
  obtain ⟨s, hs, hx, -⟩ := DataW.trod_string Tryz.underlying9 e2
  simp only [Prod.mk.injEq, DataW.lit.injEq, Lit.string.injEq] at hx
  have e' := congrArg (fun l : List Value => l[0]?) hs
  simp only [List.getElem?_take, List.getElem?_drop, if_pos (show 0 < 1 by decide), Nat.add_zero] at e'
  rw [World.var?_cell gWords hv i, ← Array.getElem?_toList, e', hx.1]
  rfl

theorem tabs_of_laid {W : World} {l : List (String × DataW Unit)} (hl : l = [("math/bits.deBruijn32tab", Rows.laid_math_bits_deBruijn32tab), ("math/bits.deBruijn64tab", Rows.laid_math_bits_deBruijn64tab), ("internal/strconv.uint64pow10", Rows.laid_internal_strconv_uint64pow10), ("tapestry/value.rows", Rows.laid_tapestry_value_rows), ("tapestry/value.words", Rows.laid_tapestry_value_words)])
    (h : laidMetH Tryz.prog l W) : Tabs W := by
  subst hl
  refine ⟨rows_of_reads (Lib.laidMet.reads h (.tail _ (.tail _ (.tail _ (.head _))))), words_of_reads (Lib.laidMet.reads h (.tail _ (.tail _ (.tail _ (.tail _ (.head _)))))), ?_⟩
  obtain ⟨g, t, cs, fuel, p, hg, ht, hv, hd⟩ := Lib.laidMet.reads h (n := "internal/strconv.uint64pow10") (.tail _ (.tail _ (.head _)))
  obtain rfl := Option.some.inj (gPow.symm.trans hg)
  obtain rfl := Option.some.inj (gPowT.symm.trans ht)
  unfold Lib.TabIs
  rw [hv]
  congr 1
  have := Lib.cells_of_tab (zs := Lib.pow10Tab) Tryz.underlying270 Tryz.underlying227 (by kernel_rfl) (by kernel_rfl) hd
  rw [← this]

/-- A block's cells, laid anew. -/
def lay (cs : Array Value) : Obj → Obj
  | .cells _ t frozen => .cells cs t frozen
  | o => o

/-- A world for the witness: the settled one, the listed variables holding what their initialisers lay. -/
noncomputable def laidWorld (os : Os) : World :=
  { World.holding Tryz.prog os ⟨#[], #[], []⟩ with heap := (((((World.holding Tryz.prog os ⟨#[], #[], []⟩).heap.modify 0 (lay #[.bool false, .bool false, .bool false, .bool false, .bool false, .bool true, .bool false, .bool false, .bool false, .bool false, .bool true, .bool false, .bool false, .bool false, .bool false, .bool false, .bool true, .bool false, .bool false, .bool false, .bool false, .bool false, .bool true, .bool false, .bool false, .bool false, .bool false, .bool false, .bool true, .bool false, .bool false, .bool true, .bool true, .bool true, .bool true, .bool true, .bool true, .bool false, .bool true, .bool false])).modify 1 (lay #[.string ⟨#[]⟩, .string ⟨#[104, 111, 115, 116]⟩, .string ⟨#[99, 111, 109, 112]⟩, .string ⟨#[109, 101, 109, 111]⟩, .string ⟨#[102, 114, 97, 103]⟩, .string ⟨#[112, 111, 114, 116, 97, 108]⟩, .string ⟨#[103, 105, 118, 101]⟩, .string ⟨#[103, 117, 97, 114, 100]⟩, .string ⟨#[119, 97, 105, 116]⟩])).modify 2 (lay #[.int .u64 1, .int .u64 10, .int .u64 100, .int .u64 1000, .int .u64 10000, .int .u64 100000, .int .u64 1000000, .int .u64 10000000, .int .u64 100000000, .int .u64 1000000000, .int .u64 10000000000, .int .u64 100000000000, .int .u64 1000000000000, .int .u64 10000000000000, .int .u64 100000000000000, .int .u64 1000000000000000, .int .u64 10000000000000000, .int .u64 100000000000000000, .int .u64 1000000000000000000, .int .u64 10000000000000000000])).modify 3 (lay #[.int .u8 0, .int .u8 1, .int .u8 28, .int .u8 2, .int .u8 29, .int .u8 14, .int .u8 24, .int .u8 3, .int .u8 30, .int .u8 22, .int .u8 20, .int .u8 15, .int .u8 25, .int .u8 17, .int .u8 4, .int .u8 8, .int .u8 31, .int .u8 27, .int .u8 13, .int .u8 23, .int .u8 21, .int .u8 19, .int .u8 16, .int .u8 7, .int .u8 26, .int .u8 12, .int .u8 18, .int .u8 6, .int .u8 11, .int .u8 5, .int .u8 10, .int .u8 9])).modify 4 (lay #[.int .u8 0, .int .u8 1, .int .u8 56, .int .u8 2, .int .u8 57, .int .u8 49, .int .u8 28, .int .u8 3, .int .u8 61, .int .u8 58, .int .u8 42, .int .u8 50, .int .u8 38, .int .u8 29, .int .u8 17, .int .u8 4, .int .u8 62, .int .u8 47, .int .u8 59, .int .u8 36, .int .u8 45, .int .u8 43, .int .u8 51, .int .u8 22, .int .u8 53, .int .u8 39, .int .u8 33, .int .u8 30, .int .u8 24, .int .u8 18, .int .u8 12, .int .u8 5, .int .u8 63, .int .u8 55, .int .u8 48, .int .u8 27, .int .u8 60, .int .u8 41, .int .u8 37, .int .u8 16, .int .u8 46, .int .u8 35, .int .u8 44, .int .u8 21, .int .u8 52, .int .u8 32, .int .u8 23, .int .u8 11, .int .u8 54, .int .u8 26, .int .u8 40, .int .u8 15, .int .u8 34, .int .u8 20, .int .u8 31, .int .u8 10, .int .u8 25, .int .u8 14, .int .u8 19, .int .u8 9, .int .u8 13, .int .u8 8, .int .u8 7, .int .u8 6]) }
set_option maxRecDepth 100000 in
theorem laid_met (os : Os) (args : Array Value) : laidMet Tryz.prog Rows.operMayRow.laid ((laidWorld os).forCall (fun _ _ => 0) ⟨#[], args, []⟩).memory :=
  laidMet_of_run3 8 (by kernel_rfl) (by kernel_rfl) (by kernel_rfl)
end Go.Proofs.YtjbapldlgnlepaaGreatDoor
